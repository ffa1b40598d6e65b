/- Arguments opened: slices of Booleans; fields that are slices of bytes. -/
import Derived.Test.YthgplballiibnaaStructs
import Derived.Deep.Grids
namespace Go.Proofs.Ythgplballiibnaa
open Go.RowKit Go.ChangeShapes Go.WideShapes Go.Deep
/-- A slice of Booleans. -/
def BoolsAt (w : World) (B : Nat) (A : Option Addr) (n : Nat) : Prop := 0 < n → ∃ b off, A = some ⟨b, off, none⟩ ∧ b < B ∧ ∀ i, i < n → ∃ p : Bool, w.cell? ⟨b, off + i, none⟩ = some (.bool p)
section
variable {H : Type} {enc : TypeId × Value → H} {P : Program} {W : World}
/-- An argument that is a slice of Booleans. -/
theorem arg_bools {t e : TypeId} (ht : P.underlying t = some (.slice e)) (he : P.underlying e = some .bool) (hc : P.cellsOf e = 1) 
    {ts : List TypeId} {ds : List (DataW H)} (hsz : (DataW.weightsEach P ts ds).all (· ≤ reachBytes) = true) {j : Nat} (hj : ts[j]? = some t) {v : Value} {d : DataW H} {p : List MemPlace} (hd : ds[j]? = some d)
    {base : Nat} (hv : Value.okWide P W .any base t v) (h : DataW.Trod enc P W 0 (fun _ => true) true t v d p) : ∃ (A : Option Addr) (n c : Nat), v = .slice A n c ∧ BoolsAt W W.heap.size A n ∧ n ≤ c := by
  obtain ⟨A, n, c, rfl⟩ := okWide_slice ht hv
  obtain ⟨fuel, hf⟩ := h
  rcases open_bools ht he hc (by simpa [Value.cells] using hf) with ⟨hcs, _⟩ | ⟨a, len, cap, zs, hcs, _, hl, hm, hx, hcell⟩
  · simp at hcs
    obtain ⟨rfl, rfl, rfl⟩ := hcs
    exact ⟨none, 0, 0, rfl, fun h => absurd h (by omega), by omega⟩
  · simp at hcs
    obtain ⟨rfl, rfl, rfl⟩ := hcs
    refine ⟨some a, n, c, rfl, fun hn => ?_, hl⟩
    obtain ⟨b, off, spot⟩ := a
    have h0 := hcell 0 (by omega)
    have hspot : spot = none := by simpa [Addr.add] using World.cell?_spot h0
    subst hspot
    refine ⟨b, off, rfl, World.block_lt_of_cell? W _ (show W.cell? ⟨b, off, none⟩ = _ by simpa [Addr.add] using h0), fun i hi => ⟨zs i, ?_⟩⟩
    have h1 := hcell i (by omega)
    have ha : (⟨b, off, none⟩ : Addr).add i = ⟨b, off + i, none⟩ := by unfold Addr.add; split <;> simp_all
    rwa [ha] at h1
/-- A field that is a slice of bytes, read. -/
theorem field_bytes {r : List Value} {j : Nat} {ft e : TypeId} (hft : P.underlying ft = some (.slice e)) (he : P.underlying e = some (.int .u8)) (hc : P.cellsOf e = 1) (hb : P.bytesOf e = 1) (h : ∃ (u : Value) (d : DataW H) (p : List MemPlace) (m : Nat), r[j]? = some u ∧ DataW.trod enc P W 0 (fun _ => true) true m ft [u] = some (d, p) ∧ ∀ q ∈ d.weights P ft, q ≤ reachBytes) :
    ∃ v : RowV, r[j]? = some v.val ∧ Bytes W W.heap.size v.A v.n v.xs ∧ v.n ≤ 140737488351232 ∧ v.n ≤ v.c := by
  obtain ⟨u, d, p, m, h1, h2, h3⟩ := h
  obtain ⟨A, n, c, xs, e1, e2, e3, e4⟩ := bytes_of hft he hc hb h2 h3
  exact ⟨⟨A, n, c, xs⟩, by rw [h1, e1]; rfl, e2, e3, e4⟩
end
end Go.Proofs.Ythgplballiibnaa
