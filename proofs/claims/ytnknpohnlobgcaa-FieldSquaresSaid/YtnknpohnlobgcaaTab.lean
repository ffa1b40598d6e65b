/- The tables of powers and exponents as they stand behind k rounds of their making. -/
import Derived.Test.YtnknpohnlobgcaaPlain
import Derived.Laws.Rows
import Derived.RowKit3
namespace Go.Proofs.Ytnknpohnlobgcaa
open Go.RowKit

def tabN : Nat → List Nat
  | 0 => List.replicate 511 0
  | k + 1 => ((tabN k).set k (pw k)).set (255 + pw k) k
def cellsU8 (l : List Nat) : Array Value := (l.map fun n : Nat => Value.int .u8 (n : Int)).toArray
/-- The zeros of a table. -/
def zeros : Array Value := cellsU8 (tabN 0)

theorem tabN_length (k : Nat) : (tabN k).length = 511 := by
  induction k with
  | zero => rw [tabN, List.length_replicate]
  | succ k ih => simp [tabN, ih]
theorem tabN_get (k : Nat) (hk : k ≤ 255) : ∀ i, i < k → (tabN k)[i]? = some (pw i) ∧ (tabN k)[255 + pw i]? = some i := by
  induction k with
  | zero => intro i hi; omega
  | succ k ih =>
    intro i hi
    have hl := tabN_length k
    have hp := pw_lt k
    simp only [tabN, List.getElem?_set, List.length_set, hl]
    by_cases e : i = k
    · subst e
      have h1 : ¬ 255 + pw i = i := by omega
      refine ⟨by rw [if_neg h1, if_pos rfl, if_pos (by omega)], by rw [if_pos rfl, if_pos (by omega)]⟩
    · have h := ih (by omega) i (by omega)
      have hq : pw i ≠ pw k := fun h => e (by have := pw_inj h; rwa [Nat.mod_eq_of_lt (by omega), Nat.mod_eq_of_lt (by omega)] at this)
      have h1 : ¬ 255 + pw k = i := by omega
      have h2 : ¬ k = i := by omega
      have h3 : ¬ 255 + pw k = 255 + pw i := by omega
      have h4 : ¬ k = 255 + pw i := by omega
      exact ⟨by rw [if_neg h1, if_neg h2]; exact h.1, by rw [if_neg h3, if_neg h4]; exact h.2⟩
theorem tab_pw (i : Nat) (h : i < 255) : (tabN 255)[i]? = some (pw i) := (tabN_get 255 (by decide) i h).1
theorem tab_lg (a : Nat) (h : a < 256) (h1 : 1 ≤ a) : (tabN 255)[255 + a]? = some (lg a) := by
  have := (tabN_get 255 (by decide) (lg a) (lg_lt a h h1)).2
  rwa [pw_lg a h h1] at this
theorem cellsU8_get (l : List Nat) (i : Nat) : (cellsU8 l)[i]? = l[i]?.map fun n : Nat => Value.int .u8 (n : Int) := by simp [cellsU8]
theorem cellsU8_some (l : List Nat) (i x : Nat) (h : l[i]? = some x) : (cellsU8 l)[i]? = some (.int .u8 (x : Int)) := by rw [cellsU8_get, h]; rfl
theorem cellsU8_set (l : List Nat) (i x : Nat) : (cellsU8 l).setIfInBounds i (.int .u8 (x : Int)) = cellsU8 (l.set i x) := by
  simp [cellsU8, List.map_set]
theorem cellsU8_size (l : List Nat) : (cellsU8 l).size = l.length := by simp [cellsU8]
theorem zeros_eq : zeros = cellsU8 (tabN 0) := rfl

theorem Grown_trans {a b c : World} (h : Grown a b) (k : Grown b c) : Grown a c :=
  ⟨World.keptBut_trans h.1 k.1, fun x => (k.2.1 x).trans (h.2.1 x), Nat.le_trans h.2.2 k.2.2⟩
theorem cell_table {w : World} {g i : Nat} {l : List Nat} {t : TypeId} (h : w.heap[g]? = some (.cells (cellsU8 l) t)) (hi : i < l.length) : w.cell? ⟨g, i, none⟩ = some (.int .u8 ((l[i] : Nat) : Int)) := by
  rw [cell_of_row w g i _ _ _ h]
  exact cellsU8_some l i _ (List.getElem?_eq_getElem hi)
theorem heap_set2 {w : World} {g i j x y : Nat} {l : List Nat} {t : TypeId} (h : w.heap[g]? = some (.cells (cellsU8 l) t)) :
    ((w.setCell ⟨g, i, none⟩ (.int .u8 (x : Int))).setCell ⟨g, j, none⟩ (.int .u8 (y : Int))).heap[g]? = some (.cells (cellsU8 ((l.set i x).set j y)) t) := by
  have h1 := heap_setCell_same w g i _ t (.int .u8 (x : Int)) h
  rw [cellsU8_set] at h1
  have h2 := heap_setCell_same _ g j _ t (.int .u8 (y : Int)) h1
  rwa [cellsU8_set] at h2
theorem Grown_setRow {W w : World} (h : Grown W w) {g : Nat} (hg : W.heap.size ≤ g) {old cs : Array Value} {t : TypeId} (hb : w.heap[g]? = some (.cells old t)) : Grown W (w.setRow g cs) := by
  obtain ⟨⟨h1, h2, h3⟩, hf, hs⟩ := h
  refine ⟨⟨h1, h2, fun i hi => ?_⟩, fun x => ?_, by rw [setRow_size]; exact hs⟩
  · rw [setRow_other w g i cs (by omega)]
    exact h3 i hi
  · rw [← hf x]
    by_cases e : x.block = g
    · have h5 := setRow_heap w g old cs t (0, 0) hb
      simp [World.frozen?, e, h5, hb]
    · simp [World.frozen?, setRow_other w g x.block cs e]
theorem cellsU8_one (l : List Nat) : (cellsU8 l).all (·.oneCell') = true := by
  rw [Array.all_eq_true_iff_forall_mem]
  intro v hv
  simp only [cellsU8, List.mem_toArray, List.mem_map] at hv
  obtain ⟨n, _, rfl⟩ := hv
  rfl
/-- The finished tables, as the cells of one struct. -/
def tabC : Array Value := cellsU8 (tabN 255)
theorem tabC_pw (i : Nat) (h : i < 255) : tabC[i]? = some (.int .u8 ((pw i : Nat) : Int)) := cellsU8_some _ _ _ (tab_pw i h)
theorem tabC_lg (a : Nat) (h : a < 256) (h1 : 1 ≤ a) : tabC[255 + a]? = some (.int .u8 ((lg a : Nat) : Int)) := cellsU8_some _ _ _ (tab_lg a h h1)
theorem tabC_size : tabC.size = 511 := by rw [tabC, cellsU8_size, tabN_length]
theorem tabC_one : tabC.all (·.oneCell') = true := cellsU8_one _
theorem zeros_size : zeros.size = tabC.size := by rw [tabC_size, zeros, cellsU8_size, tabN_length]
/-- A whole struct is stored into the block that was made last. -/
theorem wpList_store_new {P : Program} {ops : Array Oper} {rest : List Oper} {o : Oper} {a : Act} {w : World} {Q : Exit → Act → World → Prop} {c : Array Value} {t : TypeId} (hgd : o.guard = none) (x y : Operand) (ho : o.op = .store t x y)
    (c' : Array Value) (hx : a.eval x = .pointer (some ⟨w.heap.size, 0, none⟩)) (hy : a.eval y = .agg c') (hi : (P.info? t).map (·.size) = some c'.size)
    (hold : c.size = c'.size) (h1 : c'.all (·.oneCell') = true)
    (h : wpList P ops Q rest (a.put o.dst undef) (w.alloc (.cells c' t))) : wpList P ops Q (o :: rest) a (w.alloc (.cells c t)) := by
  refine wpList_store_row hgd t x y ho w.heap.size c' hx hy t c (heap_alloc_new _ _) hi hold h1 ?_
  have e : (w.alloc (.cells c t)).setRow w.heap.size c' = w.alloc (.cells c' t) := by
    simp only [World.setRow, World.alloc]
    congr 1
    apply Array.ext_getElem?
    intro i
    rw [Array.getElem?_modify]
    by_cases h : w.heap.size = i
    · subst h; simp
    · have h' : ¬ i = w.heap.size := fun e => h e.symm
      simp [h, h', Array.getElem?_push]
  rw [e]
  exact h
attribute [irreducible] tabC
end Go.Proofs.Ytnknpohnlobgcaa
