/- Matrices as lists of lists: the plain mathematics of layer 6's answers. -/
import Derived.Test.YtcjjhblgejkkeaaGreatVec
import Derived.Test.YtcjjhblgejkkeaaGreatBytes
namespace Go.Proofs.YtcjjhblgejkkeaaGreat
/-- Are all rows of one length? -/
def fits (M : List (List Nat)) : Prop := ∀ r ∈ M, r.length = (M.headD []).length
instance (M : List (List Nat)) : Decidable (fits M) := by unfold fits; infer_instance
def sizeE (M : List (List Nat)) : Int := if fits M then 0 else 21
def sizeR (M : List (List Nat)) : Nat := if fits M then M.length else 0
def sizeC (M : List (List Nat)) : Nat := if fits M then (M.headD []).length else 0
/-- The identity. -/
def idN (n k : Nat) : List (List Nat) := (List.range k).map fun i => vUnit n i
theorem idN_succ (n k : Nat) : idN n (k + 1) = idN n k ++ [vUnit n k] := by simp [idN, List.range_succ]
/-- A column. -/
def colN (M : List (List Nat)) (k i : Nat) : List Nat := tab i fun j => (M.getD j []).getD k 0
theorem colN_succ (M : List (List Nat)) (k i : Nat) : colN M k (i + 1) = colN M k i ++ [(M.getD i []).getD k 0] := tab_succ _ _
def trN (M : List (List Nat)) (r k : Nat) : List (List Nat) := (List.range k).map fun c => colN M c r
theorem trN_succ (M : List (List Nat)) (r k : Nat) : trN M r (k + 1) = trN M r k ++ [colN M k r] := by simp [trN, List.range_succ]
/-- A product's number, its row, the product. -/
def dotN (r : List Nat) (N : List (List Nat)) (k n : Nat) : Nat := sumX (fun i => mulN (r.getD i 0) ((N.getD i []).getD k 0)) n
def rowN (r : List Nat) (N : List (List Nat)) (n c : Nat) : List Nat := tab c fun k => dotN r N k n
def prodN (M N : List (List Nat)) (n c k : Nat) : List (List Nat) := (M.take k).map fun r => rowN r N n c
/-- The row, cleared by the first k rows. -/
def clearTo (nc : Nat) (M : List (List Nat)) (row : List Nat) : Nat → List Nat
  | 0 => row
  | k + 1 => vAddS nc (clearTo nc M row k) (M.getD k []) ((clearTo nc M row k).getD (vLead nc (M.getD k [])).toNat 0)
theorem clearTo_len (nc : Nat) (M : List (List Nat)) (row : List Nat) (h : row.length = nc) : ∀ k, (clearTo nc M row k).length = nc
  | 0 => h
  | _ + 1 => tab_length _ _
theorem vAddS_all {n c : Nat} {xs ys : List Nat} (hx : AllB xs) (hy : AllB ys) : AllB (vAddS n xs ys c) := fun x hm => by
  obtain ⟨i, _, rfl⟩ := List.mem_map.1 hm
  exact xor_lt (hx.getD i) (mulN_lt _ (hy.getD i))
theorem vScale_all {n c : Nat} {xs : List Nat} (hx : AllB xs) : AllB (vScale n xs c) := fun x hm => by
  obtain ⟨i, _, rfl⟩ := List.mem_map.1 hm
  exact mulN_lt _ (hx.getD i)
/-- The other rows, cleared; the new one laid ahead of the first whose lead lies behind. -/
def layTo (nc : Nat) (M : List (List Nat)) (u : List Nat) (L : Nat) : Nat → List (List Nat) × Bool
  | 0 => ([], false)
  | k + 1 =>
    let p := layTo nc M u L k
    let hit := !p.2 && decide ((L : Int) < vLead nc (M.getD k []))
    ((if hit = true then p.1 ++ [u] else p.1) ++ [vAddS nc (M.getD k []) u ((M.getD k []).getD L 0)], p.2 || hit)
/-- A row put into a reduced matrix. -/
def insertN (nc : Nat) (M : List (List Nat)) (row : List Nat) : List (List Nat) :=
  let v := clearTo nc M row M.length
  if vLead nc v < 0 then M
  else
    let L := (vLead nc v).toNat
    let u := vScale nc v (invN (v.getD L 0))
    let p := layTo nc M u L M.length
    if p.2 = true then p.1 else p.1 ++ [u]
end Go.Proofs.YtcjjhblgejkkeaaGreat
