/- Rows cut to one length; what VectorDual and VectorLinear share. -/
import Derived.Test.YtkinhhplhkbljaaUnits
import Derived.Laws.Cover1
namespace Go.Proofs.Ytkinhhplhkbljaa
open Go.RowKit
theorem min3c (a b n : Nat) (h : min (a : Int) (min (b : Int) 20) = (n : Int)) (w : World) :
    (Builtin.min_ #[3, 3, 3] 3 #[.int .i64 a, .int .i64 b, .int .i64 20]).run Try.prog w = .ok (.int .i64 n) w := by
  rw [run_min_int3]
  congr 2
  split <;> split <;> omega
/-- A row, cut. -/
def RowV.cut (n : Nat) (r : RowV) : RowV := ⟨r.A, n, r.c, r.xs.take n⟩
def cuts (n : Nat) (rs : List RowV) (j : Nat) : List RowV := (rs.take j).map (RowV.cut n)
theorem cuts_zero (n : Nat) (rs : List RowV) : cuts n rs 0 = [] := rfl
theorem cuts_succ (n : Nat) (rs : List RowV) (j : Nat) (r : RowV) (h : rs[j]? = some r) : cuts n rs (j + 1) = cuts n rs j ++ [r.cut n] := by
  unfold cuts
  rw [List.take_add_one, h]
  simp
theorem cuts_get (n : Nat) (rs : List RowV) (k i : Nat) (r : RowV) (hi : i < k) (h : rs[i]? = some r) : (cuts n rs k)[i]? = some (r.cut n) := by
  unfold cuts
  rw [List.getElem?_map, List.getElem?_take, if_pos hi, h]; rfl
theorem cuts_mem {n k : Nat} {rs : List RowV} {r : RowV} (h : r ∈ cuts n rs k) : ∃ i r', i < k ∧ rs[i]? = some r' ∧ r = r'.cut n := by
  unfold cuts at h
  obtain ⟨r', h1, rfl⟩ := List.mem_map.1 h
  obtain ⟨i, hi⟩ := List.getElem?_of_mem h1
  rw [List.getElem?_take] at hi
  split at hi
  · exact ⟨i, r', by assumption, hi, rfl⟩
  · cases hi
theorem cuts_length (n : Nat) (rs : List RowV) (k : Nat) (h : k ≤ rs.length) : (cuts n rs k).length = k := by
  simp [cuts]; omega
/-- Row i, as numbers. -/
def rowAt (n : Nat) (rs : List RowV) (i : Nat) : List Nat := ((rowsOf rs).getD i []).take n
theorem rowAt_eq {n i : Nat} {rs : List RowV} {r : RowV} (h : rs[i]? = some r) : rowAt n rs i = r.xs.take n := by rw [rowAt, rowsOf_getD h]
theorem rowsOf_cuts (n : Nat) (rs : List RowV) (k i : Nat) (hi : i < k) (h : k ≤ rs.length) : (rowsOf (cuts n rs k)).getD i [] = rowAt n rs i := by
  have h1 := List.getElem?_eq_getElem (show i < rs.length by omega)
  rw [rowsOf_getD (cuts_get n rs k i _ hi h1), rowAt_eq h1]; rfl
theorem blocks_apart' {w : World} {base base' n n' c c' : Nat} {e e' : TypeId} {A A' : Option Addr} {xs : List Nat} {rs : List RowV} (h : OwnRows w base' e' A' n' c' rs) (h' : Own w base e A n c xs) (he : e ≠ e') :
    (Value.slice A' n' c').ownBlock = none ∨ (Value.slice A' n' c').ownBlock ≠ (Value.slice A n c).ownBlock := by
  rcases blocks_apart h' h he with e | e
  · cases hb : (Value.slice A' n' c').ownBlock with
    | none => exact Or.inl rfl
    | some g => rw [e]; exact Or.inr (by simp)
  · exact Or.inr fun h => e h.symm
theorem OwnRows.grown {w w' : World} {base n c : Nat} {e : TypeId} {A : Option Addr} {rs : List RowV} {row : Option Nat} (h : OwnRows w base e A n c rs) (hg : w.grownBy w' row) (hn : (Value.slice A n c).ownBlock = none ∨ (Value.slice A n c).ownBlock ≠ row) : OwnRows w' base e A n c rs :=
  World.ownsRow.kept h hg hn
/-- A combination's product is the products' combination. -/
theorem dual_eq (n k : Nat) (R : List (List Nat)) (C V D : List Nat) (hR : ∀ i, AllB (R.getD i [])) (hC : AllB C) (hV : AllB V) (hD : ∀ i, i < k → D.getD i 0 = vDot n (R.getD i []) V) :
    vDot n (vComb n R C k) V = vDot k C D := by
  have e1 : vDot n (vComb n R C k) V = sumX (fun j => sumX (fun i => mulN (mulN ((R.getD i []).getD j 0) (C.getD i 0)) (V.getD j 0)) k) n := by
    rw [vDot]
    refine sumX_congr fun j hj => ?_
    rw [vComb, tab_getD, if_pos hj, vCombAt, ← sumX_mul _ _ _ fun i _ => mulN_lt _ ((hR i).getD j)]
  have e2 : vDot k C D = sumX (fun i => sumX (fun j => mulN (mulN ((R.getD i []).getD j 0) (V.getD j 0)) (C.getD i 0)) n) k := by
    rw [vDot]
    refine sumX_congr fun i hi => ?_
    have hlt : vDot n (R.getD i []) V < 256 := sumX_lt _ _ fun j _ => mulN_lt _ ((hR i).getD j)
    rw [hD i hi, mul_comm' _ _ (hC.getD i) hlt, vDot, ← sumX_mul _ _ _ fun j _ => mulN_lt _ ((hR i).getD j)]
  rw [e1, e2, sumX_swap]
  refine sumX_congr fun i _ => sumX_congr fun j _ => ?_
  have a := (hR i).getD j
  have c := hC.getD i
  have v := hV.getD j
  rw [mul_assoc' _ _ _ a c v, mul_comm' (C.getD i 0) _ c v, ← mul_assoc' _ _ _ a v c]
/-- Cut rows in new memory, as rows. -/
theorem cuts_rows {w wr : World} {A A' : Option Addr} {na m k c : Nat} {rs : List RowV} (h : RowsAt w w.heap.size A' na rs) (hl : OwnRows wr w.heap.size 22 A k c (cuts m rs k)) (hk : Keep w wr) (hm : ∀ i r, i < k → rs[i]? = some r → m ≤ r.n) :
    RowsAt wr wr.heap.size A k (cuts m rs k) := by
  refine hl.rows fun r hr => ?_
  obtain ⟨i, r', hi, hr', rfl⟩ := cuts_mem hr
  have hle := hm i r' hi hr'
  obtain ⟨b1, b2, b3⟩ := h.2.1 r' (List.mem_of_getElem? hr')
  exact ⟨((b1.cut hle).keep (Nat.le_refl _) hk).mono hk.size, by show m ≤ _; omega, by show m ≤ r'.c; omega⟩
theorem cuts_all {w : World} {A : Option Addr} {na m k : Nat} {rs : List RowV} (h : RowsAt w w.heap.size A na rs) (i : Nat) : AllB ((rowsOf (cuts m rs k)).getD i []) := by
  rw [List.getD_eq_getElem?_getD]
  cases e : (rowsOf (cuts m rs k))[i]? with
  | none => intro x hx; simp at hx
  | some l =>
    rw [rowsOf, List.getElem?_map] at e
    cases e2 : (cuts m rs k)[i]? with
    | none => rw [e2] at e; cases e
    | some r =>
      rw [e2] at e
      obtain rfl : r.xs = l := by simpa using e
      obtain ⟨j, r', _, hr', rfl⟩ := cuts_mem (List.mem_of_getElem? e2)
      exact (h.2.1 r' (List.mem_of_getElem? hr')).1.all.take m
theorem cuts_comb (m k : Nat) (rs : List RowV) (C : List Nat) (hk : k ≤ rs.length) : combOf m (cuts m rs k) C = vComb m (rowsOf (cuts m rs k)) C k ∧ combErr m (cuts m rs k) = 0 := by
  have h : ∀ r ∈ cuts m rs k, r.n = m := fun r hr => by
    obtain ⟨_, r', _, _, rfl⟩ := cuts_mem hr
    rfl
  rw [combOf, combErr, if_pos h, if_pos h, cuts_length m rs k hk]
  exact ⟨rfl, rfl⟩
end Go.Proofs.Ytkinhhplhkbljaa
