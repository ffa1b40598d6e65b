/- Arguments opened: slices of ints; the structs of layer 9's statements. -/
import Derived.Test.YtcafofffgmaepaaMix
import Derived.Test.YtcafofffgmaepaaPd
namespace Go.Proofs.Ytcafofffgmaepaa
open Go.RowKit Go.ChangeShapes Go.WideShapes Go.Deep
set_option linter.unusedVariables false
section
variable {H : Type} {enc : TypeId × Value → H} {P : Program} {W : World}
/-- A reading of a slice of ints. -/
theorem ints_of {t e : TypeId} (ht : P.underlying t = some (.slice e)) (he : P.underlying e = some (.int .i64)) (hc : P.cellsOf e = 1) (hb : 1 ≤ P.bytesOf e)
    {v : Value} {d : DataW H} {p : List MemPlace} {fuel : Nat} (h : DataW.trod enc P W 0 (fun _ => true) true fuel t [v] = some (d, p)) (hs : ∀ n ∈ d.weights P t, n ≤ reachBytes) :
    ∃ (A : Option Addr) (n c : Nat) (l : List Int), v = .slice A n c ∧ IntsAt W W.heap.size A n l ∧ (∀ z ∈ l, -9223372036854775808 ≤ z ∧ z ≤ 9223372036854775807) ∧ n ≤ 140737488351232 ∧ n ≤ c := by
  rcases open_ints ht he hc h with ⟨hcs, _⟩ | ⟨a, len, cap, zs, hcs, _, hl, hm, hz, hx, hcell, hwz⟩
  · simp at hcs
    exact ⟨none, 0, 0, [], hcs, ⟨rfl, fun h => absurd h (by omega)⟩, fun z hz => by simp at hz, by omega, by omega⟩
  · simp at hcs
    have hz' : zs.length = cap := by simpa using hz
    simp only [Prod.mk.injEq] at hx
    obtain ⟨hd, _⟩ := hx
    have hr : reachBytes = 140737488351232 := by decide
    have hsz : cap ≤ reachBytes := by
      have h1 := hs (((lits .i64 (zs.take len) : List (DataW H)).length + (lits .i64 (zs.drop len) : List (DataW H)).length) * P.bytesOf e) (by rw [hd]; simp [DataW.weights, ht])
      simp only [lits, List.length_map, List.length_take, List.length_drop] at h1
      have h2 : cap * 1 ≤ (min len zs.length + (zs.length - len)) * P.bytesOf e := Nat.mul_le_mul (by omega) hb
      omega
    refine ⟨some a, len, cap, zs.take len, hcs, ⟨by rw [List.length_take]; omega, fun hn => ?_⟩, fun z hz2 => bounds_i64 (hwz z (List.mem_of_mem_take hz2)), by omega, hl⟩
    obtain ⟨b, off, spot⟩ := a
    have h0 := hcell 0 (by omega)
    have hspot : spot = none := by simpa [Addr.add] using World.cell?_spot h0
    subst hspot
    refine ⟨b, off, rfl, World.block_lt_of_cell? W _ (show W.cell? ⟨b, off, none⟩ = _ by simpa [Addr.add] using h0), fun i z hi => ?_⟩
    have hi1 : i < len := by
      rcases Nat.lt_or_ge i len with h3 | h3
      · exact h3
      · rw [List.getElem?_eq_none (by rw [List.length_take]; omega)] at hi; cases hi
    have h1 := hcell i (by omega)
    have ha : (⟨b, off, none⟩ : Addr).add i = ⟨b, off + i, none⟩ := by unfold Addr.add; split <;> simp_all
    rw [ha] at h1
    rw [h1]
    rw [List.getElem?_take, if_pos hi1] at hi
    rw [List.getD_eq_getElem?_getD, hi]; rfl
/-- A struct of a slice of bytes and a slice of slices of bytes. -/
theorem arg_laid {t tr tu e : TypeId} {f0 f1 : Field} (ht : P.underlying t = some (.struct #[f0, f1])) (hone : oneCellFields P #[f0, f1] = true) (hC : P.cellsOf t = 2)
    (hf0 : f0.type = tu) (hf1 : f1.type = tr) (hr : P.underlying tr = some (.slice tu)) (hu : P.underlying tu = some (.slice e)) (hcu : P.cellsOf tu = 1) (hbu : 1 ≤ P.bytesOf tu) (he : P.underlying e = some (.int .u8)) (hc : P.cellsOf e = 1) (hb : P.bytesOf e = 1)
    {ts : List TypeId} {ds : List (DataW H)} (hsz : (DataW.weightsEach P ts ds).all (· ≤ reachBytes) = true) {j : Nat} (hj : ts[j]? = some t) {v : Value} {d : DataW H} {p : List MemPlace} (hd : ds[j]? = some d)
    {base : Nat} (hv : Value.okWide P W .any base t v) (h : DataW.Trod enc P W 0 (fun _ => true) true t v d p) :
    ∃ (n1 c1 n2 c2 : Nat) (A1 A2 : Option Addr) (xs : List Nat) (rs : List RowV), v = .agg #[.slice A1 n1 c1, .slice A2 n2 c2] ∧ Bytes W W.heap.size A1 n1 xs ∧ n1 ≤ 140737488351232 ∧ n1 ≤ c1 ∧ RowsAt W W.heap.size A2 n2 rs ∧ n2 ≤ 140737488351232 ∧ n2 ≤ c2 := by
  obtain ⟨cs, rfl, hl, hf⟩ := arg_fields ht hone (by rw [hC]; rfl) hsz hj hd hv h
  match cs, hl with
  | [v0, v1], _ =>
    obtain ⟨u0, d0, p0, m0, e0, t0, w0⟩ := hf 0 f0 rfl
    obtain ⟨u1, d1, p1, m1, e1, t1, w1⟩ := hf 1 f1 rfl
    simp at e0 e1
    subst e0 e1
    rw [hf0] at t0 w0
    rw [hf1] at t1 w1
    obtain ⟨A1, n1, c1, xs, rfl, b1, l1, k1⟩ := bytes_of hu he hc hb t0 w0
    obtain ⟨A2, n2, c2, rs, rfl, r2, l2, k2⟩ := rows_of hr hu hcu hbu he hc hb t1 w1
    exact ⟨n1, c1, n2, c2, A1, A2, xs, rs, rfl, b1, l1, k1, r2, l2, k2⟩
/-- A struct of a slice of bytes and a slice of ints. -/
theorem arg_stream {t ti tu e ei : TypeId} {f0 f1 : Field} (ht : P.underlying t = some (.struct #[f0, f1])) (hone : oneCellFields P #[f0, f1] = true) (hC : P.cellsOf t = 2)
    (hf0 : f0.type = tu) (hf1 : f1.type = ti) (hi : P.underlying ti = some (.slice ei)) (hei : P.underlying ei = some (.int .i64)) (hci : P.cellsOf ei = 1) (hbi : 1 ≤ P.bytesOf ei) (hu : P.underlying tu = some (.slice e)) (he : P.underlying e = some (.int .u8)) (hc : P.cellsOf e = 1) (hb : P.bytesOf e = 1)
    {ts : List TypeId} {ds : List (DataW H)} (hsz : (DataW.weightsEach P ts ds).all (· ≤ reachBytes) = true) {j : Nat} (hj : ts[j]? = some t) {v : Value} {d : DataW H} {p : List MemPlace} (hd : ds[j]? = some d)
    {base : Nat} (hv : Value.okWide P W .any base t v) (h : DataW.Trod enc P W 0 (fun _ => true) true t v d p) :
    ∃ (n1 c1 n2 c2 : Nat) (A1 A2 : Option Addr) (xs : List Nat) (l : List Int), v = .agg #[.slice A1 n1 c1, .slice A2 n2 c2] ∧ Bytes W W.heap.size A1 n1 xs ∧ n1 ≤ 140737488351232 ∧ n1 ≤ c1 ∧ IntsAt W W.heap.size A2 n2 l ∧ (∀ z ∈ l, -9223372036854775808 ≤ z ∧ z ≤ 9223372036854775807) ∧ n2 ≤ 140737488351232 ∧ n2 ≤ c2 := by
  obtain ⟨cs, rfl, hl, hf⟩ := arg_fields ht hone (by rw [hC]; rfl) hsz hj hd hv h
  match cs, hl with
  | [v0, v1], _ =>
    obtain ⟨u0, d0, p0, m0, e0, t0, w0⟩ := hf 0 f0 rfl
    obtain ⟨u1, d1, p1, m1, e1, t1, w1⟩ := hf 1 f1 rfl
    simp at e0 e1
    subst e0 e1
    rw [hf0] at t0 w0
    rw [hf1] at t1 w1
    obtain ⟨A1, n1, c1, xs, rfl, b1, l1, k1⟩ := bytes_of hu he hc hb t0 w0
    obtain ⟨A2, n2, c2, l, rfl, r2, z2, l2, k2⟩ := ints_of hi hei hci hbi t1 w1
    exact ⟨n1, c1, n2, c2, A1, A2, xs, l, rfl, b1, l1, k1, r2, z2, l2, k2⟩
/-- A struct of two slices of bytes. -/
theorem arg_two {t tu e : TypeId} {f0 f1 : Field} (ht : P.underlying t = some (.struct #[f0, f1])) (hone : oneCellFields P #[f0, f1] = true) (hC : P.cellsOf t = 2)
    (hf0 : f0.type = tu) (hf1 : f1.type = tu) (hu : P.underlying tu = some (.slice e)) (he : P.underlying e = some (.int .u8)) (hc : P.cellsOf e = 1) (hb : P.bytesOf e = 1)
    {ts : List TypeId} {ds : List (DataW H)} (hsz : (DataW.weightsEach P ts ds).all (· ≤ reachBytes) = true) {j : Nat} (hj : ts[j]? = some t) {v : Value} {d : DataW H} {p : List MemPlace} (hd : ds[j]? = some d)
    {base : Nat} (hv : Value.okWide P W .any base t v) (h : DataW.Trod enc P W 0 (fun _ => true) true t v d p) :
    ∃ (n1 c1 n2 c2 : Nat) (A1 A2 : Option Addr) (xs ys : List Nat), v = .agg #[.slice A1 n1 c1, .slice A2 n2 c2] ∧ Bytes W W.heap.size A1 n1 xs ∧ n1 ≤ 140737488351232 ∧ n1 ≤ c1 ∧ Bytes W W.heap.size A2 n2 ys ∧ n2 ≤ 140737488351232 ∧ n2 ≤ c2 := by
  obtain ⟨cs, rfl, hl, hf⟩ := arg_fields ht hone (by rw [hC]; rfl) hsz hj hd hv h
  match cs, hl with
  | [v0, v1], _ =>
    obtain ⟨u0, d0, p0, m0, e0, t0, w0⟩ := hf 0 f0 rfl
    obtain ⟨u1, d1, p1, m1, e1, t1, w1⟩ := hf 1 f1 rfl
    simp at e0 e1
    subst e0 e1
    rw [hf0] at t0 w0
    rw [hf1] at t1 w1
    obtain ⟨A1, n1, c1, xs, rfl, b1, l1, k1⟩ := bytes_of hu he hc hb t0 w0
    obtain ⟨A2, n2, c2, ys, rfl, b2, l2, k2⟩ := bytes_of hu he hc hb t1 w1
    exact ⟨n1, c1, n2, c2, A1, A2, xs, ys, rfl, b1, l1, k1, b2, l2, k2⟩
end
end Go.Proofs.Ytcafofffgmaepaa
