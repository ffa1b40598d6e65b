/- An argument that is a struct of two bytes, two slices of slices of bytes and a slice of bytes. -/
import Derived.Test.YtcafofffgmaepaaOpen
import Derived.Test.YtcafofffgmaepaaStructs
import Derived.Test.YtcafofffgmaepaaArr
namespace Go.Proofs.Ytcafofffgmaepaa
open Go.RowKit Go.ChangeShapes Go.WideShapes Go.Deep
section
variable {H : Type} {enc : TypeId × Value → H} {P : Program} {W : World}
/-- A reading of a slice of slices of bytes. -/
theorem rows_of {t u e : TypeId} (ht : P.underlying t = some (.slice u)) (hu : P.underlying u = some (.slice e)) (hcu : P.cellsOf u = 1) (hbu : 1 ≤ P.bytesOf u) (he : P.underlying e = some (.int .u8)) (hc : P.cellsOf e = 1) (hb : P.bytesOf e = 1)
    {v : Value} {d : DataW H} {p : List MemPlace} {fuel : Nat} (h : DataW.trod enc P W 0 (fun _ => true) true fuel t [v] = some (d, p)) (hs : ∀ n ∈ d.weights P t, n ≤ reachBytes) :
    ∃ (A : Option Addr) (n c : Nat) (rs : List RowV), v = .slice A n c ∧ RowsAt W W.heap.size A n rs ∧ n ≤ 140737488351232 ∧ n ≤ c := by
  rcases open_slice1 ht hcu h with ⟨hcs, _⟩ | ⟨a, n, c, m, f2, V, D, Pl, hcs, _, hl, hm, hmm, hx, hi⟩
  · simp at hcs
    exact ⟨none, 0, 0, [], hcs, ⟨rfl, fun r hr => by simp at hr, fun h => absurd h (by omega)⟩, by omega, by omega⟩
  · simp at hcs
    have hmm' : m = c := by simpa using hmm
    simp only [Prod.mk.injEq] at hx
    obtain ⟨hde, _⟩ := hx
    have hr : reachBytes = 140737488351232 := by decide
    have hn : n ≤ 140737488351232 := by
      have h1 := hs ((((List.range n).map D).length + ((List.range (m - n)).map fun j => D (n + j)).length) * P.bytesOf u) (by rw [hde]; simp [DataW.weights, ht])
      simp only [List.length_map, List.length_range] at h1
      have h2 : n * 1 ≤ (n + (m - n)) * P.bytesOf u := Nat.mul_le_mul (by omega) hbu
      omega
    have each : ∀ i, i < n → ∃ r : RowV, V i = .slice r.A r.n r.c ∧ Bytes W W.heap.size r.A r.n r.xs ∧ r.n ≤ 140737488351232 ∧ r.n ≤ r.c := by
      intro i hin
      obtain ⟨_, h2⟩ := hi i (by omega)
      obtain ⟨A', n', c', xs, e1, e2, e3, e4⟩ := bytes_of hu he hc hb h2 fun k hk => hs k (by
        rw [hde]
        simp only [DataW.weights, ht, List.mem_cons, List.mem_append]
        exact Or.inr (Or.inl (weights_all (List.mem_map.2 ⟨i, List.mem_range.2 hin, rfl⟩) k hk)))
      exact ⟨⟨A', n', c', xs⟩, e1, e2, e3, e4⟩
    have : Inhabited RowV := ⟨⟨none, 0, 0, []⟩⟩
    obtain ⟨R, hR⟩ := choose_lt each
    refine ⟨some a, n, c, (List.range n).map R, hcs, ⟨by simp, fun r hr => ?_, fun hpos => ?_⟩, hn, hl⟩
    · obtain ⟨i, hin, rfl⟩ := List.mem_map.1 hr
      have := hR i (List.mem_range.1 hin)
      exact ⟨this.2.1, this.2.2⟩
    · obtain ⟨b, off, spot⟩ := a
      have h0 := (hi 0 (by omega)).1
      have hspot : spot = none := by simpa [Addr.add] using World.cell?_spot h0
      subst hspot
      refine ⟨b, off, rfl, World.block_lt_of_cell? W _ (show W.cell? ⟨b, off, none⟩ = _ by simpa [Addr.add] using h0), fun i r hir => ?_⟩
      have hin : i < n := by
        rcases Nat.lt_or_ge i n with h | h
        · exact h
        · rw [List.getElem?_eq_none (by simpa using h)] at hir; cases hir
      have h1 := (hi i (by omega)).1
      have ha : (⟨b, off, none⟩ : Addr).add i = ⟨b, off + i, none⟩ := by unfold Addr.add; split <;> simp_all
      rw [ha] at h1
      rw [h1, (hR i hin).1]
      simp [hin] at hir
      rw [← hir]
/-- An argument that is a struct whose fields are one cell each. -/
theorem arg_fields {t : TypeId} {fs : Array Field} (ht : P.underlying t = some (.struct fs)) (hone : oneCellFields P fs = true) (hC : P.cellsOf t = fs.size)
    {ts : List TypeId} {ds : List (DataW H)} (hsz : (DataW.weightsEach P ts ds).all (· ≤ reachBytes) = true) {j : Nat} (hj : ts[j]? = some t) {v : Value} {d : DataW H} {p : List MemPlace} (hd : ds[j]? = some d)
    {base : Nat} (hv : Value.okWide P W .any base t v) (h : DataW.Trod enc P W 0 (fun _ => true) true t v d p) :
    ∃ cs : List Value, v = .agg cs.toArray ∧ cs.length = fs.size ∧ ∀ (i : Nat) (f : Field), fs[i]? = some f → ∃ (u : Value) (d : DataW H) (p : List MemPlace) (m : Nat), cs[i]? = some u ∧ DataW.trod enc P W 0 (fun _ => true) true m f.type [u] = some (d, p) ∧ ∀ q ∈ d.weights P f.type, q ≤ reachBytes := by
  have hone' := hone_of hone
  obtain ⟨cs, rfl, hl⟩ : ∃ cs : List Value, v = .agg cs.toArray ∧ cs.length = fs.size := by
    simp only [Value.okWide, ht] at hv
    obtain ⟨cs, h1, h2, _⟩ := hv
    exact ⟨cs.toList, by rw [h1], by rw [Array.length_toList, h2, hC]⟩
  obtain ⟨fuel, hf⟩ := h
  obtain ⟨xs, k, _, hxy, _, hxl, hff⟩ := DataW.trod_struct ht hf
  simp only [Prod.mk.injEq] at hxy
  have hw : ∀ q ∈ d.weights P t, q ≤ reachBytes := fun q hq => by
    have := List.all_eq_true.1 hsz q (DataW.weights_mem_each hj hd q hq)
    simpa using this
  refine ⟨cs, rfl, hl, fun i f hif => ?_⟩
  have hi : i < fs.size := (Array.getElem?_eq_some_iff.1 hif).1
  obtain ⟨ho, hc1⟩ := hone' i f hif
  have g := hff i f hif
  have hcl : (Value.agg cs.toArray).cells.toList = cs := by simp [Value.cells]
  rw [hcl, ho, hc1, take1_drop cs i undef (by omega), List.getElem?_eq_getElem (by omega)] at g
  refine ⟨cs.getD i undef, xs[i].1, xs[i].2, k, by simp [List.getD, List.getElem?_eq_getElem (show i < cs.length by omega)], g, fun q hq => hw q ?_⟩
  rw [hxy.1]
  simp only [DataW.weights, ht]
  exact weights_each (j := i) (t := f.type) (d := xs[i].1) (by rw [List.getElem?_map]; simp [hif]) (by rw [List.getElem?_map, List.getElem?_eq_getElem (by omega)]; rfl) q hq
/-- .. two bytes, two slices of slices of bytes, a slice of bytes. -/
theorem arg_mix {t tr tu e : TypeId} {f0 f1 f2 f3 f4 : Field} (ht : P.underlying t = some (.struct #[f0, f1, f2, f3, f4])) (hone : oneCellFields P #[f0, f1, f2, f3, f4] = true) (hC : P.cellsOf t = 5)
    (hf0 : f0.type = e) (hf1 : f1.type = e) (hf2 : f2.type = tr) (hf3 : f3.type = tr) (hf4 : f4.type = tu) (hr : P.underlying tr = some (.slice tu)) (hu : P.underlying tu = some (.slice e)) (hcu : P.cellsOf tu = 1) (hbu : 1 ≤ P.bytesOf tu) (he : P.underlying e = some (.int .u8)) (hc : P.cellsOf e = 1) (hb : P.bytesOf e = 1)
    {ts : List TypeId} {ds : List (DataW H)} (hsz : (DataW.weightsEach P ts ds).all (· ≤ reachBytes) = true) {j : Nat} (hj : ts[j]? = some t) {v : Value} {d : DataW H} {p : List MemPlace} (hd : ds[j]? = some d)
    {base : Nat} (hv : Value.okWide P W .any base t v) (h : DataW.Trod enc P W 0 (fun _ => true) true t v d p) :
    ∃ (G S n1 c1 n2 c2 n3 c3 : Nat) (A1 A2 A3 : Option Addr) (rs1 rs2 : List RowV) (xs : List Nat), v = .agg #[.int .u8 (G : Int), .int .u8 (S : Int), .slice A1 n1 c1, .slice A2 n2 c2, .slice A3 n3 c3] ∧ G < 256 ∧ S < 256 ∧ RowsAt W W.heap.size A1 n1 rs1 ∧ n1 ≤ 140737488351232 ∧ RowsAt W W.heap.size A2 n2 rs2 ∧ n2 ≤ 140737488351232 ∧ Bytes W W.heap.size A3 n3 xs ∧ n3 ≤ 140737488351232 := by
  obtain ⟨cs, rfl, hl, hf⟩ := arg_fields ht hone (by rw [hC]; rfl) hsz hj hd hv h
  match cs, hl with
  | [v0, v1, v2, v3, v4], _ =>
    obtain ⟨u0, d0, p0, m0, e0, t0, w0⟩ := hf 0 f0 rfl
    obtain ⟨u1, d1, p1, m1, e1, t1, w1⟩ := hf 1 f1 rfl
    obtain ⟨u2, d2, p2, m2, e2, t2, w2⟩ := hf 2 f2 rfl
    obtain ⟨u3, d3, p3, m3, e3, t3, w3⟩ := hf 3 f3 rfl
    obtain ⟨u4, d4, p4, m4, e4, t4, w4⟩ := hf 4 f4 rfl
    simp at e0 e1 e2 e3 e4
    subst e0 e1 e2 e3 e4
    rw [hf0] at t0
    rw [hf1] at t1
    rw [hf2] at t2 w2
    rw [hf3] at t3 w3
    rw [hf4] at t4 w4
    obtain ⟨G, rfl, hG⟩ := byte_cell he t0
    obtain ⟨S, rfl, hS⟩ := byte_cell he t1
    obtain ⟨A1, n1, c1, rs1, rfl, r1, l1, _⟩ := rows_of hr hu hcu hbu he hc hb t2 w2
    obtain ⟨A2, n2, c2, rs2, rfl, r2, l2, _⟩ := rows_of hr hu hcu hbu he hc hb t3 w3
    obtain ⟨A3, n3, c3, xs, rfl, b3, l3, _⟩ := bytes_of hu he hc hb t4 w4
    exact ⟨G, S, n1, c1, n2, c2, n3, c3, A1, A2, A3, rs1, rs2, xs, rfl, hG, hS, r1, l1, r2, l2, b3, l3⟩
end
end Go.Proofs.Ytcafofffgmaepaa
