/- The walk of RelayTurns. -/
import Derived.Test.YtcjjhblgejkkeaaGreatRpl
import Derived.Test.YtcjjhblgejkkeaaGreatRtr
import Derived.Test.YtcjjhblgejkkeaaGreatRwk
import Derived.Test.YtcjjhblgejkkeaaGreatRs1
import Derived.Test.YtcjjhblgejkkeaaGreatRps
import Derived.Test.YtcjjhblgejkkeaaGreatArr
import Derived.Deep.DeepCutAuto
import Derived.Deep.CutBlock
namespace Go.Proofs.YtcjjhblgejkkeaaGreat
open Go.RowKit Lin
set_option linter.unusedVariables false
set_option linter.unusedSimpArgs false
/-- The rows of an argument, as they are laid. -/
def trueT (g s : Nat) (M : List (List Nat)) (l : List (List Nat)) : List (List Nat) := l.map fun x => rowV g s M (fillN x g)
theorem trueT_sym {g s : Nat} {M : List (List Nat)} (h : Sz g s M) {l : List (List Nat)} (hl : ∀ x ∈ l, AllB x) : SymRows g s M (trueT g s M l) := fun r hr => by
  obtain ⟨x, hx, rfl⟩ := List.mem_map.1 hr
  have ha := fillN_all (hl x hx) g
  have ok := rowV_ok h (fillN_len x g) ha
  exact ⟨ok.1, ok.2, _, vec_rowV h (fillN_len x g) ha⟩
theorem trueT_at {g s : Nat} {M : List (List Nat)} {l : List (List Nat)} {i : Nat} {x : List Nat} (h : l[i]? = some x) : (trueT g s M l).getD i [] = rowV g s M (fillN x g) ∧ i < (trueT g s M l).length := by
  refine ⟨?_, ?_⟩
  · rw [trueT, List.getD_eq_getElem?_getD, List.getElem?_map, h]; rfl
  · rw [trueT, List.length_map]; exact (List.getElem?_eq_some_iff.1 h).1
theorem pairs_told {g : Nat} {l l' : List PairV} (h : l.map PairV.xs = l'.map PairV.xs) (hl : ∀ p ∈ l, p.a.xs.length = g) (hl' : ∀ p ∈ l', p.a.xs.length = g) : pairXs l = pairXs l' := by
  have cut : ∀ {l : List PairV}, (∀ p ∈ l, p.a.xs.length = g) → pairXs l = (l.map PairV.xs).map fun x => (x.take g, x.drop g) := fun {l} hl => by
    rw [pairXs, List.map_map]
    refine List.map_congr_left fun p hp => ?_
    have e := hl p hp
    show _ = ((p.a.xs ++ p.b.xs).take g, (p.a.xs ++ p.b.xs).drop g)
    rw [List.take_left' e, List.drop_left' e]
  rw [cut hl, cut hl', h]
end Go.Proofs.YtcjjhblgejkkeaaGreat
