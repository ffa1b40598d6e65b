/- Words for combinations (plain). -/
import Derived.Test.YtcjjhblgejkkeaaGreatVec
import Derived.Test.YtcjjhblgejkkeaaGreatBytes
import Derived.Test.YtcjjhblgejkkeaaGreatOpen
namespace Go.Proofs.YtcjjhblgejkkeaaGreat
open Go.RowKit
set_option linter.unusedVariables false
set_option linter.unusedSimpArgs false
theorem vAddS_one (n : Nat) (xs ys : List Nat) (hy : AllB ys) : vAddS n xs ys 1 = vAdd n xs ys := tab_congr fun i _ => by rw [mul_one_right _ (hy.getD i)]
theorem vUnit_set (n k : Nat) : (List.replicate n 0).set k 1 = vUnit n k := by
  refine list_ext (by simp [vUnit, tab_length]) fun i hi => ?_
  simp at hi
  rw [vUnit, tab_getD, if_pos hi, List.getD_eq_getElem?_getD, List.getElem?_set]
  by_cases e : k = i
  · subst e; simp [hi]
  · rw [if_neg e, if_neg (fun h => e h.symm)]; simp [hi]
open Go.RowKit

theorem vComb_zero (n : Nat) (rows : List (List Nat)) (c : List Nat) : vComb n rows c 0 = List.replicate n 0 := by
  refine list_ext (by simp [vComb, tab_length]) fun i hi => ?_
  rw [vComb, tab_length] at hi
  rw [vComb, tab_getD, if_pos hi, List.getD_eq_getElem?_getD, List.getElem?_replicate, if_pos hi]; rfl
theorem vComb_succ (n k : Nat) (rows : List (List Nat)) (c : List Nat) : vAddS n (vComb n rows c k) (rows.getD k []) (c.getD k 0) = vComb n rows c (k + 1) :=
  tab_congr fun i hi => by rw [vComb, tab_getD, if_pos hi]; rfl

/-- The combination, or that the rows don't fit. -/
def combOf (n : Nat) (rs : List RowV) (c : List Nat) : List Nat := if ∀ r ∈ rs, r.n = n then vComb n (rowsOf rs) c rs.length else []
def combErr (n : Nat) (rs : List RowV) : Int := if ∀ r ∈ rs, r.n = n then 0 else 21
end Go.Proofs.YtcjjhblgejkkeaaGreat
