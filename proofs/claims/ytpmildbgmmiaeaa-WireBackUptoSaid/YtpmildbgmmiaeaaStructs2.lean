/- Arguments opened: slices of structs, with the data that they read as. -/
import Derived.Test.YtpmildbgmmiaeaaStructs
namespace Go.Proofs.Ytpmildbgmmiaeaa
open Go.RowKit Go.ChangeShapes Go.WideShapes Go.Deep
section
variable {H : Type} {enc : TypeId × Value → H} {P : Program} {W : World}
/-- A row's fields, read as a struct's parts. -/
def PartsOf (enc : TypeId × Value → H) (P : Program) (W : World) (fs : Array Field) (r : List Value) (parts : List (DataW H)) : Prop :=
  ∀ (j : Nat) (f : Field), fs[j]? = some f → ∃ (u : Value) (d : DataW H) (p : List MemPlace) (m : Nat), r[j]? = some u ∧ parts[j]? = some d ∧ DataW.trod enc P W 0 (fun _ => true) true m f.type [u] = some (d, p) ∧ ∀ q ∈ d.weights P f.type, q ≤ reachBytes
/-- A reading of a slice of structs, and the data. -/
theorem structs_data {t e : TypeId} {fs : Array Field} (ht : P.underlying t = some (.slice e)) (he : P.underlying e = some (.struct fs)) (hone : oneCellFields P fs = true) (hC : P.cellsOf e = fs.size) (hpos : 0 < fs.size) (hbe : 1 ≤ P.bytesOf e)
    {v : Value} {d : DataW H} {p : List MemPlace} {fuel : Nat} (h : DataW.trod enc P W 0 (fun _ => true) true fuel t [v] = some (d, p)) (hs : ∀ n ∈ d.weights P t, n ≤ reachBytes) :
    ∃ (A : Option Addr) (n c : Nat) (l : List (List Value)), v = .slice A n c ∧ FieldsAt W W.heap.size A n fs.size l ∧ n ≤ 140737488351232 ∧ n ≤ c ∧
      ((n = 0 ∧ l = []) ∨ ∃ es sp : List (DataW H), d = .slice es sp ∧ es.length = n ∧ ∀ (i : Nat) (r : List Value), l[i]? = some r → ∃ parts, es[i]? = some (.agg parts) ∧ PartsOf enc P W fs r parts) := by
  have hone' := hone_of hone
  rcases open_slice ht h with ⟨hcs, _⟩ | ⟨a, len, cap, m, n, D, Pl, hcs, _, hl, hm, hmm, hx, hi⟩
  · simp at hcs
    exact ⟨none, 0, 0, [], hcs, ⟨rfl, fun r hr => by simp at hr, fun h => absurd h (by omega)⟩, by omega, by omega, Or.inl ⟨rfl, rfl⟩⟩
  · simp at hcs
    have hmc : m = cap := by simpa using hmm
    simp only [Prod.mk.injEq] at hx
    obtain ⟨hde, _⟩ := hx
    have hr : reachBytes = 140737488351232 := by decide
    have hlen : len ≤ 140737488351232 := by
      have h1 := hs ((((List.range len).map D).length + ((List.range (m - len)).map fun j => D (len + j)).length) * P.bytesOf e) (by rw [hde]; simp [DataW.weights, ht])
      simp only [List.length_map, List.length_range] at h1
      have h2 : len * 1 ≤ (len + (m - len)) * P.bytesOf e := Nat.mul_le_mul (by omega) hbe
      omega
    have each : ∀ i, i < len → ∃ r : List Value, r.length = fs.size ∧ (∀ j u, r[j]? = some u → W.cell? (a.add (i * fs.size + j)) = some u) ∧ ∃ parts, D i = .agg parts ∧ PartsOf enc P W fs r parts := by
      intro i hin
      obtain ⟨cs', h1, h2⟩ := hi i (by omega)
      rw [hC] at h1
      obtain ⟨_, hlen', hcell⟩ := World.cells?_some h1
      obtain ⟨xs, k, _, hxy, _, hxl, hf⟩ := DataW.trod_struct he h2
      simp only [Prod.mk.injEq] at hxy
      refine ⟨cs', hlen', fun j u hju => ?_, xs.map Prod.fst, hxy.1, fun j f hjf => ?_⟩
      · have hj : j < fs.size := by
          rcases Nat.lt_or_ge j cs'.length with hh | hh
          · omega
          · rw [List.getElem?_eq_none hh] at hju; cases hju
        have hc := hcell j hj
        rw [add_add] at hc
        rw [hc, hju]
      · have hj : j < fs.size := (Array.getElem?_eq_some_iff.1 hjf).1
        obtain ⟨ho, hc1⟩ := hone' j f hjf
        have g := hf j f hjf
        rw [ho, hc1, take1_drop cs' j undef (by omega), List.getElem?_eq_getElem (by omega)] at g
        refine ⟨cs'.getD j undef, xs[j].1, xs[j].2, k, by simp [List.getD, List.getElem?_eq_getElem (show j < cs'.length by omega)], by rw [List.getElem?_map, List.getElem?_eq_getElem (by omega)]; rfl, g, fun q hq => hs q ?_⟩
        rw [hde]
        simp only [DataW.weights, ht, List.mem_cons, List.mem_append]
        refine Or.inr (Or.inl (weights_all (List.mem_map.2 ⟨i, List.mem_range.2 hin, rfl⟩) q ?_))
        rw [hxy.1]
        simp only [DataW.weights, he]
        exact weights_each (j := j) (t := f.type) (d := xs[j].1) (by rw [List.getElem?_map]; simp [hjf]) (by rw [List.getElem?_map, List.getElem?_eq_getElem (by omega)]; rfl) q hq
    obtain ⟨R, hR⟩ := choose_lt each
    refine ⟨some a, len, cap, (List.range len).map R, hcs, ⟨by simp, fun r hr => ?_, fun hp => ?_⟩, hlen, hl, Or.inr ⟨_, _, hde, by simp, fun i r hir => ?_⟩⟩
    · obtain ⟨i, hin, rfl⟩ := List.mem_map.1 hr
      exact (hR i (List.mem_range.1 hin)).1
    · obtain ⟨b, off, spot⟩ := a
      have hr0 := hR 0 hp
      have h0 := hr0.2.1 0 ((R 0).getD 0 undef) (by simp [List.getD, List.getElem?_eq_getElem (show 0 < (R 0).length by rw [hr0.1]; exact hpos)])
      have hspot : spot = none := by simpa [Addr.add] using World.cell?_spot h0
      subst hspot
      refine ⟨b, off, rfl, World.block_lt_of_cell? W _ (show W.cell? ⟨b, off, none⟩ = _ by simpa [Addr.add] using h0), fun i r j v hir hjv => ?_⟩
      have hin : i < len := by
        rcases Nat.lt_or_ge i len with h | h
        · exact h
        · rw [List.getElem?_eq_none (by simpa using h)] at hir; cases hir
      have hri : r = R i := by simp [hin] at hir; exact hir.symm
      subst hri
      have h1 := (hR i hin).2.1 j v hjv
      have ha : (⟨b, off, none⟩ : Addr).add (i * fs.size + j) = ⟨b, off + (i * fs.size + j), none⟩ := by unfold Addr.add; split <;> simp_all
      rwa [ha] at h1
    · have hin : i < len := by
        rcases Nat.lt_or_ge i len with h | h
        · exact h
        · rw [List.getElem?_eq_none (by simpa using h)] at hir; cases hir
      have hri : r = R i := by simp [hin] at hir; exact hir.symm
      subst hri
      obtain ⟨parts, h1, h2⟩ := (hR i hin).2.2
      exact ⟨parts, by rw [List.getElem?_map, List.getElem?_range hin]; simp [h1], h2⟩
/-- A reading of a slice of bytes, and how many data it has. -/
theorem bytes_data {t e : TypeId} (ht : P.underlying t = some (.slice e)) (he : P.underlying e = some (.int .u8)) (hc : P.cellsOf e = 1) (hb : P.bytesOf e = 1)
    {v : Value} {d : DataW H} {p : List MemPlace} {fuel : Nat} (h : DataW.trod enc P W 0 (fun _ => true) true fuel t [v] = some (d, p)) (hs : ∀ n ∈ d.weights P t, n ≤ reachBytes) :
    ∃ (A : Option Addr) (n c : Nat) (xs : List Nat), v = .slice A n c ∧ Bytes W W.heap.size A n xs ∧ n ≤ 140737488351232 ∧ n ≤ c ∧ (n = 0 ∨ ∃ es sp : List (DataW H), d = .slice es sp ∧ es.length = n) := by
  obtain ⟨A, n, c, xs, e1, e2, e3, e4⟩ := bytes_of ht he hc hb h hs
  refine ⟨A, n, c, xs, e1, e2, e3, e4, ?_⟩
  rcases open_ints ht he hc h with ⟨hcs, _⟩ | ⟨a, len, cap, zs, hcs, _, hl, hm, hz, hx, hcell, hwz⟩
  · simp at hcs
    rw [e1] at hcs
    injection hcs with _ h2 _
    exact Or.inl h2
  · simp at hcs
    rw [e1] at hcs
    injection hcs with _ h2 _
    simp only [Prod.mk.injEq] at hx
    obtain ⟨hd, _⟩ := hx
    have hz' : zs.length = cap := by simpa using hz
    exact Or.inr ⟨_, _, hd, by simp [lits]; omega⟩
end
end Go.Proofs.Ytpmildbgmmiaeaa
