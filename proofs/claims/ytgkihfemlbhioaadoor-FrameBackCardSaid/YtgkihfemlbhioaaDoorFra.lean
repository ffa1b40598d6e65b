/- An argument that is an api.Frame, by value. -/
import Derived.Test.YtgkihfemlbhioaaDoorFro
import Derived.Test.YtgkihfemlbhioaaDoorProg
namespace Go.Proofs.YtgkihfemlbhioaaDoor
open Go.RowKit Go.ChangeShapes Go.WideShapes Go.Deep Fr
set_option linter.unusedVariables false
set_option linter.unusedSimpArgs false
section
variable {H : Type} {enc : TypeId × Value → H} {W : World}
theorem cFrame : Tryd.prog.cellsOf 32 = 15 := by kernel_rfl
theorem cRow : Tryd.prog.cellsOf 25 = 2 := by kernel_rfl
theorem cTopo : Tryd.prog.cellsOf 30 = 3 := by kernel_rfl
theorem cInt : Tryd.prog.cellsOf 3 = 1 := by kernel_rfl
theorem cU64 : Tryd.prog.cellsOf 22 = 1 := by kernel_rfl
theorem cBs : Tryd.prog.cellsOf 23 = 1 := by kernel_rfl
theorem cB : Tryd.prog.cellsOf 5 = 1 := by kernel_rfl
theorem bB : Tryd.prog.bytesOf 5 = 1 := by kernel_rfl
theorem cRks : Tryd.prog.cellsOf 26 = 1 := by kernel_rfl
theorem cUps : Tryd.prog.cellsOf 27 = 1 := by kernel_rfl
theorem cHps : Tryd.prog.cellsOf 28 = 1 := by kernel_rfl
theorem cEds : Tryd.prog.cellsOf 51 = 1 := by kernel_rfl
theorem fields_at {P : Program} {t : TypeId} {fs : Array Field} (ht : P.underlying t = some (.struct fs)) {cs : List Value} {d : DataW H} {p : List MemPlace} {fuel : Nat} (h : DataW.trod enc P W 0 (fun _ => true) true fuel t cs = some (d, p)) (hs : ∀ n ∈ d.weights P t, n ≤ reachBytes)
    (i ty off n : Nat) (hi : fs[i]?.map (fun f => (f.type, f.offset)) = some (ty, off)) (hc : P.cellsOf ty = n) (l : List Value) (hl : (cs.drop off).take n = l) : ∃ (d : DataW H) (p : List MemPlace) (m : Nat), DataW.trod enc P W 0 (fun _ => true) true m ty l = some (d, p) ∧ ∀ q ∈ d.weights P ty, q ≤ reachBytes := by
  cases hf : fs[i]? with
  | none => rw [hf] at hi; cases hi
  | some f =>
    rw [hf] at hi
    simp only [Option.map_some, Option.some.injEq, Prod.mk.injEq] at hi
    obtain ⟨d', p', m, h1, h2⟩ := fields_of ht h hs i f hf
    rw [hi.1, hi.2, hc, hl] at h1
    rw [hi.1] at h2
    exact ⟨d', p', m, h1, h2⟩
set_option maxRecDepth 100000 in
/-- A frame that came in. -/
theorem arg_frame {ts : List TypeId} {ds : List (DataW H)} (hsz : (DataW.weightsEach Tryd.prog ts ds).all (· ≤ reachBytes) = true) {j : Nat} (hj : ts[j]? = some 32) {v : Value} {d : DataW H} {p : List MemPlace} (hd : ds[j]? = some d)
    {base : Nat} (hv : Value.okWide Tryd.prog W .any base 32 v) (h : DataW.Trod enc Tryd.prog W 0 (fun _ => true) true 32 v d p) :
    ∃ (m : FrM) (f : FrV), v = .agg (frCells m f) ∧ FrIn W W.heap.size m f := by
  obtain ⟨cs, rfl, hl⟩ : ∃ cs : List Value, v = .agg cs.toArray ∧ cs.length = 15 := by
    simp only [Value.okWide, Tryd.underlying32] at hv
    obtain ⟨cs, h1, h2, _⟩ := hv
    exact ⟨cs.toList, by rw [h1], by rw [Array.length_toList, h2, cFrame]⟩
  have hw : ∀ q ∈ d.weights Tryd.prog 32, q ≤ reachBytes := fun q hq => by
    have := List.all_eq_true.1 hsz q (DataW.weights_mem_each hj hd q hq)
    simpa using this
  obtain ⟨fuel, hf⟩ := h
  have hcl : (Value.agg cs.toArray).cells.toList = cs := by simp [Value.cells]
  rw [hcl] at hf
  match cs, hl with
  | [v0, v1, v2, v3, v4, v5, v6, v7, v8, v9, v10, v11, v12, v13, v14], _ =>
    have hh := @fields_at _ enc W _ _ _ Tryd.underlying32 _ _ _ _ hf hw
    obtain ⟨_, _, m0, t0, _⟩ := hh 0 3 0 1 rfl cInt [v0] rfl
    obtain ⟨_, _, m1, t1, _⟩ := hh 1 3 1 1 rfl cInt [v1] rfl
    obtain ⟨_, _, m2, t2, _⟩ := hh 2 3 2 1 rfl cInt [v2] rfl
    obtain ⟨_, _, m3, t3, _⟩ := hh 3 22 3 1 rfl cU64 [v3] rfl
    obtain ⟨_, _, m4, t4, _⟩ := hh 4 22 4 1 rfl cU64 [v4] rfl
    obtain ⟨_, _, m5, t5, _⟩ := hh 5 3 5 1 rfl cInt [v5] rfl
    obtain ⟨_, _, m6, t6, _⟩ := hh 6 22 6 1 rfl cU64 [v6] rfl
    obtain ⟨_, _, m7, t7, _⟩ := hh 7 22 7 1 rfl cU64 [v7] rfl
    obtain ⟨_, _, m8, t8, _⟩ := hh 8 22 8 1 rfl cU64 [v8] rfl
    obtain ⟨_, _, m9, t9, w9⟩ := hh 9 25 9 2 rfl cRow [v9, v10] rfl
    obtain ⟨_, _, m10, t10, w10⟩ := hh 10 26 11 1 rfl cRks [v11] rfl
    obtain ⟨_, _, m11, t11, w11⟩ := hh 11 30 12 3 rfl cTopo [v12, v13, v14] rfl
    obtain ⟨k, rfl, hk⟩ := int_of Tryd.underlying3 t0
    obtain ⟨s, rfl, hs⟩ := int_of Tryd.underlying3 t1
    obtain ⟨dd, rfl, hdd⟩ := int_of Tryd.underlying3 t2
    obtain ⟨fl, rfl, hfl⟩ := int_of Tryd.underlying3 t5
    obtain ⟨ep', rfl, hep⟩ := int_of Tryd.underlying22 t3
    obtain ⟨ep, rfl, bep⟩ := u64_of hep
    obtain ⟨lf', rfl, hlf⟩ := int_of Tryd.underlying22 t4
    obtain ⟨lf, rfl, blf⟩ := u64_of hlf
    obtain ⟨gn', rfl, hgn⟩ := int_of Tryd.underlying22 t6
    obtain ⟨gn, rfl, bgn⟩ := u64_of hgn
    obtain ⟨sq', rfl, hsq⟩ := int_of Tryd.underlying22 t7
    obtain ⟨sq, rfl, bsq⟩ := u64_of hsq
    obtain ⟨fo', rfl, hfo⟩ := int_of Tryd.underlying22 t8
    obtain ⟨fo, rfl, bfo⟩ := u64_of hfo
    obtain ⟨rk, rks, rfl, rk1, rk2, rk3⟩ := ranks_of Tryd.underlying26 Tryd.underlying53 (by kernel_rfl) (by kernel_rfl) (of_decide_eq_true (by kernel_rfl)) rfl rfl Tryd.underlying22 Tryd.underlying3 t10 w10
    have hr := @fields_at _ enc W _ _ _ Tryd.underlying25 _ _ _ _ t9 w9
    obtain ⟨_, _, n0, u0, x0⟩ := hr 0 23 0 1 rfl cBs [v9] rfl
    obtain ⟨_, _, n1, u1, x1⟩ := hr 1 23 1 1 rfl cBs [v10] rfl
    obtain ⟨A1, a1, c1, xs, rfl, b1, l1, y1⟩ := bytes_of Tryd.underlying23 Tryd.underlying5 cB bB u0 x0
    obtain ⟨A2, a2, c2, ys, rfl, b2, l2, y2⟩ := bytes_of Tryd.underlying23 Tryd.underlying5 cB bB u1 x1
    have ht := @fields_at _ enc W _ _ _ Tryd.underlying30 _ _ _ _ t11 w11
    obtain ⟨_, _, o0, z0, _⟩ := ht 0 22 0 1 rfl cU64 [v12] rfl
    obtain ⟨_, _, o1, z1, q1⟩ := ht 1 27 1 1 rfl cUps [v13] rfl
    obtain ⟨_, _, o2, z2, q2⟩ := ht 2 28 2 1 rfl cHps [v14] rfl
    obtain ⟨te', rfl, hte⟩ := int_of Tryd.underlying22 z0
    obtain ⟨te, rfl, bte⟩ := u64_of hte
    obtain ⟨us, up, rfl, up1, up2⟩ := ups_of Tryd.underlying27 Tryd.underlying4 (by kernel_rfl) (of_decide_eq_true (by kernel_rfl)) z1 q1
    obtain ⟨hs', hp, rfl, hp1, hp2, hp3⟩ := hops_of Tryd.underlying28 cEds (of_decide_eq_true (by kernel_rfl)) Tryd.underlying51 Tryd.underlying57 (by kernel_rfl) (by kernel_rfl) (of_decide_eq_true (by kernel_rfl)) rfl rfl Tryd.underlying3 z2 q2
    exact ⟨⟨⟨A1, a1, c1⟩, ⟨A2, a2, c2⟩, rk, us, hs'⟩, ⟨k, s, dd, ep, lf, fl, gn, sq, fo, xs, ys, rks, te, up, hp⟩, rfl,
      ⟨b1, b2, rk1, up1, hp1, ⟨⟨l1, y1⟩, ⟨l2, y2⟩, rk2, up2, hp2⟩, ⟨i64_of hk, i64_of hs, i64_of hdd, i64_of hfl⟩, ⟨bep, blf, bgn, bsq, bfo, bte⟩, rk3, hp3⟩⟩
end
end Go.Proofs.YtgkihfemlbhioaaDoor
