/- Contracts of the document's own answers of layer 7: rows, sums of bytes, what coefficients make of symbols. -/
import Derived.Test.YtcjjhblgejkkeaaSt
import Derived.Test.YtcjjhblgejkkeaaOwn
import Derived.Test.YtcjjhblgejkkeaaMulB
import Derived.Test.YtcjjhblgejkkeaaVecB
import Derived.Test.YtcjjhblgejkkeaaRowsMk
import Derived.Test.YtcjjhblgejkkeaaRegion
import Derived.Laws.Rows
import Derived.StillTailTactics
namespace Go.Proofs.Ytcjjhblgejkkeaa
open Go.RowKit
set_option linter.unusedVariables false
set_option linter.unusedSimpArgs false
theorem infoRowSize : (Try.prog.info? 35).map (·.size) = some 2 := by kernel_rfl
/-- What a sum of bytes has done: the first i places. -/
def partS (n : Nat) (xs ys : List Nat) (c i : Nat) : List Nat := tab n fun j => if j < i then xs.getD j 0 ^^^ mulN (ys.getD j 0) c else xs.getD j 0
theorem partS_zero {n : Nat} {xs : List Nat} (ys : List Nat) (c : Nat) (h : xs.length = n) : partS n xs ys c 0 = xs := by
  subst h
  exact (tab_congr fun j _ => by rw [if_neg (by omega)]).trans (tab_self xs)
theorem partS_all (n : Nat) (xs ys : List Nat) (c : Nat) : partS n xs ys c n = vAddS n xs ys c := tab_congr fun j hj => by rw [if_pos hj]
theorem partS_getD {n : Nat} (xs ys : List Nat) (c : Nat) {i : Nat} (hi : i < n) : (partS n xs ys c i).getD i 0 = xs.getD i 0 := by rw [partS, tab_getD, if_pos hi, if_neg (by omega)]
theorem partS_set {n : Nat} (xs ys : List Nat) (c : Nat) {i : Nat} (hi : i < n) : (partS n xs ys c i).set i (xs.getD i 0 ^^^ mulN (ys.getD i 0) c) = partS n xs ys c (i + 1) := by
  refine list_ext (by simp [partS, tab_length]) fun j hj => ?_
  rw [List.length_set, partS, tab_length] at hj
  have e2 : (partS n xs ys c (i + 1)).getD j 0 = if j < i + 1 then xs.getD j 0 ^^^ mulN (ys.getD j 0) c else xs.getD j 0 := by rw [partS, tab_getD, if_pos hj]
  rw [e2, List.getD_eq_getElem?_getD, List.getElem?_set]
  by_cases e : i = j
  · subst e
    rw [if_pos rfl, if_pos (by simp [partS, tab_length]; omega), if_pos (by omega)]; rfl
  · rw [if_neg e, ← List.getD_eq_getElem?_getD, partS, tab_getD, if_pos hj]
    by_cases h1 : j < i
    · rw [if_pos h1, if_pos (by omega)]
    · rw [if_neg h1, if_neg (by omega)]
theorem vComb_step (n k : Nat) (rows : List (List Nat)) (c : List Nat) : vAddS n (vComb n rows c k) (rows.getD k []) (c.getD k 0) = vComb n rows c (k + 1) := vComb_succ n k rows c
theorem rowsXs_at' {rs : List RowV} {k : Nat} {r : RowV} (h : rs[k]? = some r) : (rowsXs rs).getD k [] = r.xs := by
  simp [rowsXs, List.getD_eq_getElem?_getD, h]
end Go.Proofs.Ytcjjhblgejkkeaa
