/- An argument that is a struct with a struct within it: two ints, a stream, bytes. -/
import Derived.Test.YtcafofffgmaepaaPads
namespace Go.Proofs.Ytcafofffgmaepaa
open Go.RowKit Go.ChangeShapes Go.WideShapes Go.Deep
set_option linter.unusedVariables false
section
variable {H : Type} {enc : TypeId × Value → H} {P : Program} {W : World}
/-- The fields of a struct, each read by itself. -/
theorem fields_of {t : TypeId} {fs : Array Field} (ht : P.underlying t = some (.struct fs)) {cs : List Value} {d : DataW H} {p : List MemPlace} {fuel : Nat} (h : DataW.trod enc P W 0 (fun _ => true) true fuel t cs = some (d, p)) (hs : ∀ n ∈ d.weights P t, n ≤ reachBytes) :
    ∀ (i : Nat) (f : Field), fs[i]? = some f → ∃ (d : DataW H) (p : List MemPlace) (m : Nat), DataW.trod enc P W 0 (fun _ => true) true m f.type ((cs.drop f.offset).take (P.cellsOf f.type)) = some (d, p) ∧ ∀ q ∈ d.weights P f.type, q ≤ reachBytes := by
  obtain ⟨xs, k, _, hxy, _, hxl, hff⟩ := DataW.trod_struct ht h
  simp only [Prod.mk.injEq] at hxy
  intro i f hif
  have hi : i < fs.size := (Array.getElem?_eq_some_iff.1 hif).1
  have g := hff i f hif
  rw [List.getElem?_eq_getElem (by omega)] at g
  refine ⟨xs[i].1, xs[i].2, k, g, fun q hq => hs q ?_⟩
  rw [hxy.1]
  simp only [DataW.weights, ht]
  exact weights_each (j := i) (t := f.type) (d := xs[i].1) (by rw [List.getElem?_map]; simp [hif]) (by rw [List.getElem?_map, List.getElem?_eq_getElem (by omega)]; rfl) q hq
theorem int_of {t : TypeId} {k : IntKind} (ht : P.underlying t = some (.int k)) {v : Value} {d : DataW H} {p : List MemPlace} {fuel : Nat} (h : DataW.trod enc P W 0 (fun _ => true) true fuel t [v] = some (d, p)) : ∃ a : Int, v = .int k a ∧ (Lit.int k a).wf = true := by
  obtain ⟨a, e, _, hw⟩ := DataW.trod_int ht h
  simp at e
  exact ⟨a, e, hw⟩
theorem arg_whole {t ts' ti tu e ei : TypeId} {f0 f1 f2 f3 h0 h1 : Field} (ht : P.underlying t = some (.struct #[f0, f1, f2, f3])) (hC : P.cellsOf t = 5)
    (ho0 : f0.offset = 0) (ho1 : f1.offset = 1) (ho2 : f2.offset = 2) (ho3 : f3.offset = 4) (hf0 : f0.type = ei) (hf1 : f1.type = ei) (hf2 : f2.type = ts') (hf3 : f3.type = tu)
    (hts : P.underlying ts' = some (.struct #[h0, h1])) (hcs : P.cellsOf ts' = 2) (hp0 : h0.offset = 0) (hp1 : h1.offset = 1) (hh0 : h0.type = tu) (hh1 : h1.type = ti)
    (hi : P.underlying ti = some (.slice ei)) (hcti : P.cellsOf ti = 1) (hei : P.underlying ei = some (.int .i64)) (hci : P.cellsOf ei = 1) (hbi : 1 ≤ P.bytesOf ei) (hu : P.underlying tu = some (.slice e)) (hcu : P.cellsOf tu = 1) (he : P.underlying e = some (.int .u8)) (hc : P.cellsOf e = 1) (hb : P.bytesOf e = 1)
    {ts : List TypeId} {ds : List (DataW H)} (hsz : (DataW.weightsEach P ts ds).all (· ≤ reachBytes) = true) {j : Nat} (hj : ts[j]? = some t) {v : Value} {d : DataW H} {p : List MemPlace} (hd : ds[j]? = some d)
    {base : Nat} (hv : Value.okWide P W .any base t v) (h : DataW.Trod enc P W 0 (fun _ => true) true t v d p) :
    ∃ (g s : Int) (n1 c1 n2 c2 n3 c3 : Nat) (A1 A2 A3 : Option Addr) (xs : List Nat) (l : List Int) (ys : List Nat), v = .agg #[.int .i64 g, .int .i64 s, .slice A1 n1 c1, .slice A2 n2 c2, .slice A3 n3 c3] ∧ (-9223372036854775808 ≤ g ∧ g ≤ 9223372036854775807) ∧ (-9223372036854775808 ≤ s ∧ s ≤ 9223372036854775807) ∧
      (Bytes W W.heap.size A1 n1 xs ∧ n1 ≤ 140737488351232 ∧ n1 ≤ c1) ∧ (IntsAt W W.heap.size A2 n2 l ∧ (∀ z ∈ l, -9223372036854775808 ≤ z ∧ z ≤ 9223372036854775807) ∧ n2 ≤ 140737488351232 ∧ n2 ≤ c2) ∧ Bytes W W.heap.size A3 n3 ys ∧ n3 ≤ 140737488351232 ∧ n3 ≤ c3 := by
  obtain ⟨cs, rfl, hl⟩ : ∃ cs : List Value, v = .agg cs.toArray ∧ cs.length = 5 := by
    simp only [Value.okWide, ht] at hv
    obtain ⟨cs, h1, h2, _⟩ := hv
    exact ⟨cs.toList, by rw [h1], by rw [Array.length_toList, h2, hC]⟩
  have hw : ∀ q ∈ d.weights P t, q ≤ reachBytes := fun q hq => by
    have := List.all_eq_true.1 hsz q (DataW.weights_mem_each hj hd q hq)
    simpa using this
  obtain ⟨fuel, hf⟩ := h
  have hcl : (Value.agg cs.toArray).cells.toList = cs := by simp [Value.cells]
  rw [hcl] at hf
  match cs, hl with
  | [v0, v1, v2, v3, v4], _ =>
    have hh := fields_of ht hf hw
    obtain ⟨d0, p0, m0, t0, w0⟩ := hh 0 f0 rfl
    obtain ⟨d1, p1, m1, t1, w1⟩ := hh 1 f1 rfl
    obtain ⟨d2, p2, m2, t2, w2⟩ := hh 2 f2 rfl
    obtain ⟨d3, p3, m3, t3, w3⟩ := hh 3 f3 rfl
    rw [hf0, ho0, hci] at t0
    rw [hf1, ho1, hci] at t1
    rw [hf2, ho2, hcs] at t2
    rw [hf2] at w2
    rw [hf3, ho3, hcu] at t3
    rw [hf3] at w3
    obtain ⟨g, rfl, hg⟩ := int_of hei (show DataW.trod enc P W 0 (fun _ => true) true m0 ei [v0] = some (d0, p0) from t0)
    obtain ⟨s, rfl, hs⟩ := int_of hei (show DataW.trod enc P W 0 (fun _ => true) true m1 ei [v1] = some (d1, p1) from t1)
    have h2 := fields_of hts (show DataW.trod enc P W 0 (fun _ => true) true m2 ts' [v2, v3] = some (d2, p2) from t2) w2
    obtain ⟨e0, q0, k0, u0, x0⟩ := h2 0 h0 rfl
    obtain ⟨e1, q1, k1, u1, x1⟩ := h2 1 h1 rfl
    rw [hh0, hp0, hcu] at u0
    rw [hh0] at x0
    rw [hh1, hp1, hcti] at u1
    rw [hh1] at x1
    obtain ⟨A1, n1, c1, xs, rfl, b1, l1, y1⟩ := bytes_of hu he hc hb (show DataW.trod enc P W 0 (fun _ => true) true k0 tu [v2] = some (e0, q0) from u0) x0
    obtain ⟨A2, n2, c2, l, rfl, b2, z2, l2, y2⟩ := ints_of hi hei hci hbi (show DataW.trod enc P W 0 (fun _ => true) true k1 ti [v3] = some (e1, q1) from u1) x1
    obtain ⟨A3, n3, c3, ys, rfl, b3, l3, y3⟩ := bytes_of hu he hc hb (show DataW.trod enc P W 0 (fun _ => true) true m3 tu [v4] = some (d3, p3) from t3) w3
    exact ⟨g, s, n1, c1, n2, c2, n3, c3, A1, A2, A3, xs, l, ys, rfl, bounds_i64 hg, bounds_i64 hs, ⟨b1, l1, y1⟩, ⟨b2, z2, l2, y2⟩, b3, l3, y3⟩
end
end Go.Proofs.Ytcafofffgmaepaa
