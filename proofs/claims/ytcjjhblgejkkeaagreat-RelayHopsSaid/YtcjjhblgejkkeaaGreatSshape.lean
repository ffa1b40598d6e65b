/- Arguments of layer 8's statements: shaped. -/
import Derived.Test.YtcjjhblgejkkeaaGreatSw
namespace Go.Proofs.YtcjjhblgejkkeaaGreat
open Go.RowKit
set_option linter.unusedVariables false
set_option linter.unusedSimpArgs false
theorem tab_set (n : Nat) (f : Nat → Nat) (k v : Nat) : (tab n f).set k v = tab n fun i => if i = k then v else f i := by
  refine list_ext (by simp [tab_length]) fun i hi => ?_
  simp [tab_length] at hi
  rw [tab_getD, if_pos hi, List.getD_eq_getElem?_getD, List.getElem?_set]
  by_cases e : k = i
  · subst e; simp [tab_length, hi]
  · rw [if_neg e, if_neg (fun h => e h.symm), ← List.getD_eq_getElem?_getD, tab_getD, if_pos hi]
theorem replicate_tab (n : Nat) : List.replicate n 0 = tab n fun _ => 0 := list_ext (by simp [tab_length]) fun i hi => by
  simp at hi
  rw [tab_getD, if_pos hi]; simp [List.getD_eq_getElem?_getD, hi]
/-- A row of so many numbers, out of a list, and the rows. -/
def shapeR (xs : List Nat) (cols i : Nat) : List Nat := tab cols fun k => xs.getD (i * cols + k) 0
def shapeTo (xs : List Nat) (rows cols i : Nat) : List (List Nat) := (List.range rows).map fun k => if k < i then shapeR xs cols k else []
def shapeN (xs : List Nat) (rows cols : Nat) : List (List Nat) := (List.range rows).map fun k => shapeR xs cols k
theorem shapeTo_zero (xs : List Nat) (rows cols : Nat) : rowsXs (List.replicate rows ⟨none, 0, 0, []⟩) = shapeTo xs rows cols 0 := by
  rw [rowsXs, shapeTo, List.map_replicate]
  refine List.ext_getElem (by simp) fun i h1 h2 => by simp
theorem shapeTo_all (xs : List Nat) (rows cols : Nat) : shapeTo xs rows cols rows = shapeN xs rows cols := by
  rw [shapeTo, shapeN]; exact List.map_congr_left fun k hk => by rw [if_pos (List.mem_range.1 hk)]
theorem shapeTo_set (xs : List Nat) (rows cols i : Nat) (hi : i < rows) : (shapeTo xs rows cols i).set i (shapeR xs cols i) = shapeTo xs rows cols (i + 1) := by
  refine List.ext_getElem (by simp [shapeTo]) fun k h1 h2 => ?_
  simp only [List.getElem_set, shapeTo, List.getElem_map, List.getElem_range]
  by_cases e : i = k
  · subst e; simp
  · rw [if_neg e]
    by_cases h : k < i
    · rw [if_pos h, if_pos (by omega)]
    · rw [if_neg h, if_neg (by omega)]
def partP (xs : List Nat) (cols i k : Nat) : List Nat := tab cols fun x => if x < k then xs.getD (i * cols + x) 0 else 0
theorem partP_step (xs : List Nat) (cols i k : Nat) : (partP xs cols i k).set k (xs.getD (i * cols + k) 0) = partP xs cols i (k + 1) := by
  rw [partP, tab_set]
  exact tab_congr fun x _ => by
    by_cases h : x = k
    · subst h; rw [if_pos rfl, if_pos (by omega)]
    · rw [if_neg h]
      by_cases h2 : x < k
      · rw [if_pos h2, if_pos (by omega)]
      · rw [if_neg h2, if_neg (by omega)]
theorem partP_done (xs : List Nat) (cols i k : Nat) (h : k = cols ∨ xs.length ≤ i * cols + k) : partP xs cols i k = shapeR xs cols i := tab_congr fun x hx => by
  by_cases h2 : x < k
  · rw [if_pos h2]
  · rw [if_neg h2]
    rcases h with h | h
    · omega
    · rw [List.getD_eq_getElem?_getD, List.getElem?_eq_none (by omega)]; rfl
theorem shape_sz (xs : List Nat) (rows cols : Nat) (ha : AllB xs) : Sz rows cols (shapeN xs rows cols) := ⟨by simp [shapeN], fun x hx => by
  obtain ⟨k, _, rfl⟩ := List.mem_map.1 hx
  refine ⟨tab_length _ _, fun y hy => ?_⟩
  obtain ⟨j, _, rfl⟩ := List.mem_map.1 hy
  exact ha.getD _⟩
theorem shapeN_succ (xs : List Nat) (i cols : Nat) : shapeN xs (i + 1) cols = shapeN xs i cols ++ [shapeR xs cols i] := by simp [shapeN, List.range_succ]
end Go.Proofs.YtcjjhblgejkkeaaGreat
