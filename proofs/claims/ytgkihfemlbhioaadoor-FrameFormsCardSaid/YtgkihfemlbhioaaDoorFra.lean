/- An argument that is a frame, by value. -/
import Derived.Test.YtgkihfemlbhioaaDoorFrm
import Derived.Test.YtgkihfemlbhioaaDoorStructs
import Derived.Deep.Grids
import Derived.Test.YtgkihfemlbhioaaDoorProg
import Derived.Test.YtgkihfemlbhioaaDoorRows
import Derived.Test.YtgkihfemlbhioaaDoorFcc
import Derived.ProofKit
namespace Go.Proofs.YtgkihfemlbhioaaDoor
open Go.RowKit Go.ChangeShapes Go.WideShapes Go.Deep Fr
set_option linter.unusedVariables false
set_option linter.unusedSimpArgs false
section
variable {H : Type} {enc : TypeId × Value → H} {P : Program} {W : World}
/-- The fields of a struct, each read by itself. -/
theorem fields_of {t : TypeId} {fs : Array Field} (ht : P.underlying t = some (.struct fs)) {cs : List Value} {d : DataW H} {p : List MemPlace} {fuel : Nat} (h : DataW.trod enc P W 0 (fun _ => true) true fuel t cs = some (d, p)) (hs : ∀ n ∈ d.weights P t, n ≤ reachBytes) :
    ∀ (i : Nat) (f : Field), fs[i]? = some f → ∃ (d : DataW H) (p : List MemPlace) (m : Nat), DataW.trod enc P W 0 (fun _ => true) true m f.type ((cs.drop f.offset).take (P.cellsOf f.type)) = some (d, p) ∧ ∀ q ∈ d.weights P f.type, q ≤ reachBytes := by
  obtain ⟨xs, k, _, hxy, _, hxl, hff⟩ := DataW.trod_struct ht h
  simp only [Prod.mk.injEq] at hxy
  intro i f hif
  have hi : i < fs.size := (Array.getElem?_eq_some_iff.1 hif).1
  have g := hff i f hif
  rw [List.getElem?_eq_getElem (by omega)] at g
  refine ⟨xs[i].1, xs[i].2, k, g, fun q hq => hs q ?_⟩
  rw [hxy.1]
  simp only [DataW.weights, ht]
  exact weights_each (j := i) (t := f.type) (d := xs[i].1) (by rw [List.getElem?_map]; simp [hif]) (by rw [List.getElem?_map, List.getElem?_eq_getElem (by omega)]; rfl) q hq
theorem int_of {t : TypeId} {k : IntKind} (ht : P.underlying t = some (.int k)) {v : Value} {d : DataW H} {p : List MemPlace} {fuel : Nat} (h : DataW.trod enc P W 0 (fun _ => true) true fuel t [v] = some (d, p)) : ∃ a : Int, v = .int k a ∧ (Lit.int k a).wf = true := by
  obtain ⟨a, e, _, hw⟩ := DataW.trod_int ht h
  simp at e
  exact ⟨a, e, hw⟩
theorem i64_of {a : Int} (h : (Lit.int .i64 a).wf = true) : I64 a := by
  simpa [Lit.wf, IntKind.min, IntKind.max, IntKind.signed, IntKind.bits, I64] using h
theorem u64_of {a : Int} (h : (Lit.int .u64 a).wf = true) : ∃ n : Nat, a = n ∧ U64 n := by
  have h2 : 0 ≤ a ∧ a ≤ 18446744073709551615 := by simpa [Lit.wf, IntKind.min, IntKind.max, IntKind.signed, IntKind.bits] using h
  obtain ⟨n, rfl⟩ := Int.eq_ofNat_of_zero_le h2.1
  exact ⟨n, rfl, by unfold U64; omega⟩
theorem map_choose {α β : Type} {R : β → α → Prop} : ∀ l : List α, (∀ x ∈ l, ∃ y, R y x) → ∃ ys : List β, ys.length = l.length ∧ ∀ (i : Nat) (x : α) (y : β), l[i]? = some x → ys[i]? = some y → R y x
  | [], _ => ⟨[], rfl, fun i x y h _ => by simp at h⟩
  | a :: l, h => by
    obtain ⟨b, hb⟩ := h a (by simp)
    obtain ⟨ys, h1, h2⟩ := map_choose l fun x hx => h x (by simp [hx])
    refine ⟨b :: ys, by simp [h1], fun i x y hx hy => ?_⟩
    cases i with
    | zero => simp at hx hy; subst hx; subst hy; exact hb
    | succ i => simp at hx hy; exact h2 i x y hx hy
/-- Marks. -/
theorem ups_of {t e : TypeId} (ht : P.underlying t = some (.slice e)) (he : P.underlying e = some .bool) (hc : P.cellsOf e = 1) (hb : 1 ≤ P.bytesOf e)
    {v : Value} {d : DataW H} {p : List MemPlace} {fuel : Nat} (h : DataW.trod enc P W 0 (fun _ => true) true fuel t [v] = some (d, p)) (hs : ∀ n ∈ d.weights P t, n ≤ reachBytes) :
    ∃ (s : SlV) (l : List Bool), v = s.val ∧ UpsAt W W.heap.size s.A s.n l ∧ s.ok := by
  rcases open_slice1 ht hc h with ⟨hcs, _⟩ | ⟨a, n, c, m, f2, V, D, Pl, hcs, _, hl, hm, hmm, hx, hi⟩
  · simp at hcs
    exact ⟨⟨none, 0, 0⟩, [], hcs, UpsAt.none_ _ _ _, by simp [SlV.ok]⟩
  · simp at hcs
    subst hcs
    have hmm' : m = c := by simpa using hmm
    simp only [Prod.mk.injEq] at hx
    obtain ⟨hde, _⟩ := hx
    have hr : reachBytes = 140737488351232 := by decide
    have hn : n ≤ 140737488351232 := by
      have h1 := hs ((((List.range n).map D).length + ((List.range (m - n)).map fun j => D (n + j)).length) * P.bytesOf e) (by rw [hde]; simp [DataW.weights, ht])
      simp only [List.length_map, List.length_range] at h1
      have h2 : n * 1 ≤ (n + (m - n)) * P.bytesOf e := Nat.mul_le_mul (by omega) hb
      omega
    rcases open_bools ht he hc h with ⟨hcs, _⟩ | ⟨a', n', c', zs, hcs, _, _, _, _, hcell⟩
    · simp at hcs
    · simp at hcs
      obtain ⟨rfl, rfl, rfl⟩ := hcs
      refine ⟨⟨some a, n, c⟩, (List.range n).map zs, rfl, ⟨by simp, fun hn0 => ?_⟩, ⟨hn, hl⟩⟩
      obtain ⟨b, off, spot⟩ := a
      have hn0 : 0 < n := hn0
      have h0 := hcell 0 (by omega)
      have hspot : spot = none := by simpa [Addr.add] using World.cell?_spot h0
      subst hspot
      refine ⟨b, off, rfl, World.block_lt_of_cell? W _ (show W.cell? ⟨b, off, none⟩ = _ by simpa [Addr.add] using h0), fun i x hx => ?_⟩
      have hin : i < n := by
        rcases Nat.lt_or_ge i n with h | h
        · exact h
        · rw [List.getElem?_eq_none (by simpa using h)] at hx; cases hx
      have h1 := hcell i (by omega)
      have ha : (⟨b, off, none⟩ : Addr).add i = ⟨b, off + i, none⟩ := by unfold Addr.add; split <;> simp_all
      rw [ha] at h1
      simp [hin] at hx
      rw [h1, hx]
/-- Ranks. -/
theorem ranks_of {t e tn ti : TypeId} {f0 f1 : Field} (ht : P.underlying t = some (.slice e)) (he : P.underlying e = some (.struct #[f0, f1])) (hone : oneCellFields P #[f0, f1] = true) (hC : P.cellsOf e = 2) (hbe : 1 ≤ P.bytesOf e)
    (hf0 : f0.type = tn) (hf1 : f1.type = ti) (hn : P.underlying tn = some (.int .u64)) (hi : P.underlying ti = some (.int .i64))
    {v : Value} {d : DataW H} {p : List MemPlace} {fuel : Nat} (h : DataW.trod enc P W 0 (fun _ => true) true fuel t [v] = some (d, p)) (hs : ∀ n ∈ d.weights P t, n ≤ reachBytes) :
    ∃ (s : SlV) (l : List (Nat × Int)), v = s.val ∧ RanksAt W W.heap.size s.A s.n l ∧ s.ok ∧ ∀ r ∈ l, U64 r.1 ∧ I64 r.2 := by
  obtain ⟨A, n, c, l, rfl, h1, h2, h3, h4⟩ := structs_of ht he hone (by rw [hC]; rfl) (by show 0 < 2; omega) hbe h hs
  obtain ⟨ys, e1, e2⟩ := map_choose (R := fun (y : Nat × Int) (x : List Value) => x = [.int .u64 (y.1 : Int), .int .i64 y.2] ∧ U64 y.1 ∧ I64 y.2) l fun r hr => by
    obtain ⟨a, g1, w1⟩ := field_int hn (hf0 ▸ h4 r hr 0 f0 rfl)
    obtain ⟨b, g2, w2⟩ := field_int hi (hf1 ▸ h4 r hr 1 f1 rfl)
    obtain ⟨k, rfl, hk⟩ := u64_of w1
    have hl := h1.2.1 r hr
    match r, hl with
    | [x, y], _ =>
      simp at g1 g2
      exact ⟨(k, b), by rw [g1, g2], hk, i64_of w2⟩
  have hm : ys.map (fun r : Nat × Int => [Value.int .u64 (r.1 : Int), .int .i64 r.2]) = l := by
    apply List.ext_getElem?
    intro i
    rw [List.getElem?_map]
    rcases Nat.lt_or_ge i l.length with hlt | hge
    · rw [List.getElem?_eq_getElem (show i < ys.length by omega), List.getElem?_eq_getElem hlt]
      exact congrArg some (e2 i _ _ (List.getElem?_eq_getElem hlt) (List.getElem?_eq_getElem (by omega))).1.symm
    · rw [List.getElem?_eq_none hge, List.getElem?_eq_none (by omega)]; rfl
  refine ⟨⟨A, n, c⟩, ys, rfl, ?_, ⟨h2, h3⟩, fun r hr => ?_⟩
  · unfold RanksAt; rw [hm]; exact h1
  · obtain ⟨i, hi, rfl⟩ := List.mem_iff_getElem.1 hr
    exact (e2 i _ _ (List.getElem?_eq_getElem (show i < l.length by omega)) (List.getElem?_eq_getElem hi)).2
/-- Edges. -/
theorem edges_of {t e ti : TypeId} {f0 f1 : Field} (ht : P.underlying t = some (.slice e)) (he : P.underlying e = some (.struct #[f0, f1])) (hone : oneCellFields P #[f0, f1] = true) (hC : P.cellsOf e = 2) (hbe : 1 ≤ P.bytesOf e)
    (hf0 : f0.type = ti) (hf1 : f1.type = ti) (hi : P.underlying ti = some (.int .i64))
    {v : Value} {d : DataW H} {p : List MemPlace} {fuel : Nat} (h : DataW.trod enc P W 0 (fun _ => true) true fuel t [v] = some (d, p)) (hs : ∀ n ∈ d.weights P t, n ≤ reachBytes) :
    ∃ (s : SlV) (l : List (Int × Int)), v = s.val ∧ EdgesAt W W.heap.size s.A s.n l ∧ s.ok ∧ ∀ r ∈ l, I64 r.1 ∧ I64 r.2 := by
  obtain ⟨A, n, c, l, rfl, h1, h2, h3, h4⟩ := structs_of ht he hone (by rw [hC]; rfl) (by show 0 < 2; omega) hbe h hs
  obtain ⟨ys, e1, e2⟩ := map_choose (R := fun (y : Int × Int) (x : List Value) => x = [.int .i64 y.1, .int .i64 y.2] ∧ I64 y.1 ∧ I64 y.2) l fun r hr => by
    obtain ⟨a, g1, w1⟩ := field_int hi (hf0 ▸ h4 r hr 0 f0 rfl)
    obtain ⟨b, g2, w2⟩ := field_int hi (hf1 ▸ h4 r hr 1 f1 rfl)
    have hl := h1.2.1 r hr
    match r, hl with
    | [x, y], _ =>
      simp at g1 g2
      exact ⟨(a, b), by rw [g1, g2], i64_of w1, i64_of w2⟩
  have hm : ys.map (fun r : Int × Int => [Value.int .i64 r.1, .int .i64 r.2]) = l := by
    apply List.ext_getElem?
    intro i
    rw [List.getElem?_map]
    rcases Nat.lt_or_ge i l.length with hlt | hge
    · rw [List.getElem?_eq_getElem (show i < ys.length by omega), List.getElem?_eq_getElem hlt]
      exact congrArg some (e2 i _ _ (List.getElem?_eq_getElem hlt) (List.getElem?_eq_getElem (by omega))).1.symm
    · rw [List.getElem?_eq_none hge, List.getElem?_eq_none (by omega)]; rfl
  refine ⟨⟨A, n, c⟩, ys, rfl, ?_, ⟨h2, h3⟩, fun r hr => ?_⟩
  · unfold EdgesAt; rw [hm]; exact h1
  · obtain ⟨i, hi, rfl⟩ := List.mem_iff_getElem.1 hr
    exact (e2 i _ _ (List.getElem?_eq_getElem (show i < l.length by omega)) (List.getElem?_eq_getElem hi)).2
/-- Lists of edges. -/
theorem hops_of {t u e ti : TypeId} {f0 f1 : Field} (ht : P.underlying t = some (.slice u)) (hcu : P.cellsOf u = 1) (hbu : 1 ≤ P.bytesOf u) (hu : P.underlying u = some (.slice e)) (he : P.underlying e = some (.struct #[f0, f1])) (hone : oneCellFields P #[f0, f1] = true) (hC : P.cellsOf e = 2) (hbe : 1 ≤ P.bytesOf e)
    (hf0 : f0.type = ti) (hf1 : f1.type = ti) (hi : P.underlying ti = some (.int .i64))
    {v : Value} {d : DataW H} {p : List MemPlace} {fuel : Nat} (h : DataW.trod enc P W 0 (fun _ => true) true fuel t [v] = some (d, p)) (hs : ∀ n ∈ d.weights P t, n ≤ reachBytes) :
    ∃ (s : SlV) (l : List (List (Int × Int))), v = s.val ∧ HopsAt W W.heap.size s.A s.n l ∧ s.ok ∧ ∀ r ∈ l, ∀ x ∈ r, I64 x.1 ∧ I64 x.2 := by
  rcases open_slice1 ht hcu h with ⟨hcs, _⟩ | ⟨a, n, c, m, f2, V, D, Pl, hcs, _, hl, hm, hmm, hx, hii⟩
  · simp at hcs
    exact ⟨⟨none, 0, 0⟩, [], hcs, HopsAt.none_ _ _ _, by simp [SlV.ok], fun r hr => by simp at hr⟩
  · simp at hcs
    subst hcs
    have hmm' : m = c := by simpa using hmm
    simp only [Prod.mk.injEq] at hx
    obtain ⟨hde, _⟩ := hx
    have hr : reachBytes = 140737488351232 := by decide
    have hn : n ≤ 140737488351232 := by
      have h1 := hs ((((List.range n).map D).length + ((List.range (m - n)).map fun j => D (n + j)).length) * P.bytesOf u) (by rw [hde]; simp [DataW.weights, ht])
      simp only [List.length_map, List.length_range] at h1
      have h2 : n * 1 ≤ (n + (m - n)) * P.bytesOf u := Nat.mul_le_mul (by omega) hbu
      omega
    have each : ∀ i, i < n → ∃ y : SlV × List (Int × Int), V i = y.1.val ∧ EdgesAt W W.heap.size y.1.A y.1.n y.2 ∧ y.1.ok ∧ ∀ r ∈ y.2, I64 r.1 ∧ I64 r.2 := by
      intro i hin
      obtain ⟨_, h2⟩ := hii i (by omega)
      obtain ⟨s, l, e1, e2, e3, e4⟩ := edges_of hu he hone hC hbe hf0 hf1 hi h2 fun k hk => hs k (by
        rw [hde]
        simp only [DataW.weights, ht, List.mem_cons, List.mem_append]
        exact Or.inr (Or.inl (weights_all (List.mem_map.2 ⟨i, List.mem_range.2 hin, rfl⟩) k hk)))
      exact ⟨(s, l), e1, e2, e3, e4⟩
    have : Inhabited (SlV × List (Int × Int)) := ⟨(⟨none, 0, 0⟩, [])⟩
    obtain ⟨R, hR⟩ := choose_lt each
    have look : ∀ (i : Nat), i < n → ((List.range n).map fun i => (R i).1)[i]? = some (R i).1 ∧ ((List.range n).map fun i => (R i).2)[i]? = some (R i).2 := fun i hin => by simp [hin]
    have lt_of : ∀ {α : Type} {g : Nat → α} {i : Nat} {x : α}, ((List.range n).map g)[i]? = some x → i < n := fun {α g i x} hx => by
      rcases Nat.lt_or_ge i n with h | h
      · exact h
      · rw [List.getElem?_eq_none (by simpa using h)] at hx; cases hx
    refine ⟨⟨some a, n, c⟩, (List.range n).map fun i => (R i).2, rfl, ⟨(List.range n).map fun i => (R i).1, by simp, by simp, fun i s r hs2 hr2 => ?_, fun hpos => ?_⟩, ⟨hn, hl⟩, fun r hr => ?_⟩
    · have hin := lt_of hs2
      rw [(look i hin).1] at hs2
      rw [(look i hin).2] at hr2
      injection hs2 with hs2; injection hr2 with hr2
      subst hs2; subst hr2
      exact ⟨(hR i hin).2.1, (hR i hin).2.2.1⟩
    · obtain ⟨b, off, spot⟩ := a
      have hpos : 0 < n := hpos
      have h0 := (hii 0 (by omega)).1
      have hspot : spot = none := by simpa [Addr.add] using World.cell?_spot h0
      subst hspot
      refine ⟨b, off, rfl, World.block_lt_of_cell? W _ (show W.cell? ⟨b, off, none⟩ = _ by simpa [Addr.add] using h0), fun i s hs2 => ?_⟩
      have hin := lt_of hs2
      have h1 := (hii i (by omega)).1
      have ha : (⟨b, off, none⟩ : Addr).add i = ⟨b, off + i, none⟩ := by unfold Addr.add; split <;> simp_all
      rw [ha] at h1
      rw [(look i hin).1] at hs2
      injection hs2 with hs2
      subst hs2
      rw [h1, (hR i hin).1]
    · obtain ⟨i, hin, rfl⟩ := List.mem_map.1 hr
      exact (hR i (List.mem_range.1 hin)).2.2.2
end
end Go.Proofs.YtgkihfemlbhioaaDoor
/- An argument that is an api.Frame, by value. -/
namespace Go.Proofs.YtgkihfemlbhioaaDoor
open Go.RowKit Go.ChangeShapes Go.WideShapes Go.Deep Fr
set_option linter.unusedVariables false
set_option linter.unusedSimpArgs false
section
variable {H : Type} {enc : TypeId × Value → H} {W : World}
theorem cFrame : Tryd.prog.cellsOf 32 = 15 := by kernel_rfl
theorem cRow : Tryd.prog.cellsOf 25 = 2 := by kernel_rfl
theorem cTopo : Tryd.prog.cellsOf 30 = 3 := by kernel_rfl
theorem cInt : Tryd.prog.cellsOf 3 = 1 := by kernel_rfl
theorem cU64 : Tryd.prog.cellsOf 22 = 1 := by kernel_rfl
theorem cBs : Tryd.prog.cellsOf 23 = 1 := by kernel_rfl
theorem cB : Tryd.prog.cellsOf 5 = 1 := by kernel_rfl
theorem bB : Tryd.prog.bytesOf 5 = 1 := by kernel_rfl
theorem cRks : Tryd.prog.cellsOf 26 = 1 := by kernel_rfl
theorem cUps : Tryd.prog.cellsOf 27 = 1 := by kernel_rfl
theorem cHps : Tryd.prog.cellsOf 28 = 1 := by kernel_rfl
theorem cEds : Tryd.prog.cellsOf 51 = 1 := by kernel_rfl
theorem fields_at {P : Program} {t : TypeId} {fs : Array Field} (ht : P.underlying t = some (.struct fs)) {cs : List Value} {d : DataW H} {p : List MemPlace} {fuel : Nat} (h : DataW.trod enc P W 0 (fun _ => true) true fuel t cs = some (d, p)) (hs : ∀ n ∈ d.weights P t, n ≤ reachBytes)
    (i ty off n : Nat) (hi : fs[i]?.map (fun f => (f.type, f.offset)) = some (ty, off)) (hc : P.cellsOf ty = n) (l : List Value) (hl : (cs.drop off).take n = l) : ∃ (d : DataW H) (p : List MemPlace) (m : Nat), DataW.trod enc P W 0 (fun _ => true) true m ty l = some (d, p) ∧ ∀ q ∈ d.weights P ty, q ≤ reachBytes := by
  cases hf : fs[i]? with
  | none => rw [hf] at hi; cases hi
  | some f =>
    rw [hf] at hi
    simp only [Option.map_some, Option.some.injEq, Prod.mk.injEq] at hi
    obtain ⟨d', p', m, h1, h2⟩ := fields_of ht h hs i f hf
    rw [hi.1, hi.2, hc, hl] at h1
    rw [hi.1] at h2
    exact ⟨d', p', m, h1, h2⟩
set_option maxRecDepth 100000 in
/-- A frame that came in. -/
theorem arg_frame {ts : List TypeId} {ds : List (DataW H)} (hsz : (DataW.weightsEach Tryd.prog ts ds).all (· ≤ reachBytes) = true) {j : Nat} (hj : ts[j]? = some 32) {v : Value} {d : DataW H} {p : List MemPlace} (hd : ds[j]? = some d)
    {base : Nat} (hv : Value.okWide Tryd.prog W .any base 32 v) (h : DataW.Trod enc Tryd.prog W 0 (fun _ => true) true 32 v d p) :
    ∃ (m : FrM) (f : FrV), v = .agg (frCells m f) ∧ FrIn W W.heap.size m f := by
  obtain ⟨cs, rfl, hl⟩ : ∃ cs : List Value, v = .agg cs.toArray ∧ cs.length = 15 := by
    simp only [Value.okWide, Tryd.underlying32] at hv
    obtain ⟨cs, h1, h2, _⟩ := hv
    exact ⟨cs.toList, by rw [h1], by rw [Array.length_toList, h2, cFrame]⟩
  have hw : ∀ q ∈ d.weights Tryd.prog 32, q ≤ reachBytes := fun q hq => by
    have := List.all_eq_true.1 hsz q (DataW.weights_mem_each hj hd q hq)
    simpa using this
  obtain ⟨fuel, hf⟩ := h
  have hcl : (Value.agg cs.toArray).cells.toList = cs := by simp [Value.cells]
  rw [hcl] at hf
  match cs, hl with
  | [v0, v1, v2, v3, v4, v5, v6, v7, v8, v9, v10, v11, v12, v13, v14], _ =>
    have hh := @fields_at _ enc W _ _ _ Tryd.underlying32 _ _ _ _ hf hw
    obtain ⟨_, _, m0, t0, _⟩ := hh 0 3 0 1 rfl cInt [v0] rfl
    obtain ⟨_, _, m1, t1, _⟩ := hh 1 3 1 1 rfl cInt [v1] rfl
    obtain ⟨_, _, m2, t2, _⟩ := hh 2 3 2 1 rfl cInt [v2] rfl
    obtain ⟨_, _, m3, t3, _⟩ := hh 3 22 3 1 rfl cU64 [v3] rfl
    obtain ⟨_, _, m4, t4, _⟩ := hh 4 22 4 1 rfl cU64 [v4] rfl
    obtain ⟨_, _, m5, t5, _⟩ := hh 5 3 5 1 rfl cInt [v5] rfl
    obtain ⟨_, _, m6, t6, _⟩ := hh 6 22 6 1 rfl cU64 [v6] rfl
    obtain ⟨_, _, m7, t7, _⟩ := hh 7 22 7 1 rfl cU64 [v7] rfl
    obtain ⟨_, _, m8, t8, _⟩ := hh 8 22 8 1 rfl cU64 [v8] rfl
    obtain ⟨_, _, m9, t9, w9⟩ := hh 9 25 9 2 rfl cRow [v9, v10] rfl
    obtain ⟨_, _, m10, t10, w10⟩ := hh 10 26 11 1 rfl cRks [v11] rfl
    obtain ⟨_, _, m11, t11, w11⟩ := hh 11 30 12 3 rfl cTopo [v12, v13, v14] rfl
    obtain ⟨k, rfl, hk⟩ := int_of Tryd.underlying3 t0
    obtain ⟨s, rfl, hs⟩ := int_of Tryd.underlying3 t1
    obtain ⟨dd, rfl, hdd⟩ := int_of Tryd.underlying3 t2
    obtain ⟨fl, rfl, hfl⟩ := int_of Tryd.underlying3 t5
    obtain ⟨ep', rfl, hep⟩ := int_of Tryd.underlying22 t3
    obtain ⟨ep, rfl, bep⟩ := u64_of hep
    obtain ⟨lf', rfl, hlf⟩ := int_of Tryd.underlying22 t4
    obtain ⟨lf, rfl, blf⟩ := u64_of hlf
    obtain ⟨gn', rfl, hgn⟩ := int_of Tryd.underlying22 t6
    obtain ⟨gn, rfl, bgn⟩ := u64_of hgn
    obtain ⟨sq', rfl, hsq⟩ := int_of Tryd.underlying22 t7
    obtain ⟨sq, rfl, bsq⟩ := u64_of hsq
    obtain ⟨fo', rfl, hfo⟩ := int_of Tryd.underlying22 t8
    obtain ⟨fo, rfl, bfo⟩ := u64_of hfo
    obtain ⟨rk, rks, rfl, rk1, rk2, rk3⟩ := ranks_of Tryd.underlying26 Tryd.underlying53 (by kernel_rfl) (by kernel_rfl) (of_decide_eq_true (by kernel_rfl)) rfl rfl Tryd.underlying22 Tryd.underlying3 t10 w10
    have hr := @fields_at _ enc W _ _ _ Tryd.underlying25 _ _ _ _ t9 w9
    obtain ⟨_, _, n0, u0, x0⟩ := hr 0 23 0 1 rfl cBs [v9] rfl
    obtain ⟨_, _, n1, u1, x1⟩ := hr 1 23 1 1 rfl cBs [v10] rfl
    obtain ⟨A1, a1, c1, xs, rfl, b1, l1, y1⟩ := bytes_of Tryd.underlying23 Tryd.underlying5 cB bB u0 x0
    obtain ⟨A2, a2, c2, ys, rfl, b2, l2, y2⟩ := bytes_of Tryd.underlying23 Tryd.underlying5 cB bB u1 x1
    have ht := @fields_at _ enc W _ _ _ Tryd.underlying30 _ _ _ _ t11 w11
    obtain ⟨_, _, o0, z0, _⟩ := ht 0 22 0 1 rfl cU64 [v12] rfl
    obtain ⟨_, _, o1, z1, q1⟩ := ht 1 27 1 1 rfl cUps [v13] rfl
    obtain ⟨_, _, o2, z2, q2⟩ := ht 2 28 2 1 rfl cHps [v14] rfl
    obtain ⟨te', rfl, hte⟩ := int_of Tryd.underlying22 z0
    obtain ⟨te, rfl, bte⟩ := u64_of hte
    obtain ⟨us, up, rfl, up1, up2⟩ := ups_of Tryd.underlying27 Tryd.underlying4 (by kernel_rfl) (of_decide_eq_true (by kernel_rfl)) z1 q1
    obtain ⟨hs', hp, rfl, hp1, hp2, hp3⟩ := hops_of Tryd.underlying28 cEds (of_decide_eq_true (by kernel_rfl)) Tryd.underlying51 Tryd.underlying57 (by kernel_rfl) (by kernel_rfl) (of_decide_eq_true (by kernel_rfl)) rfl rfl Tryd.underlying3 z2 q2
    exact ⟨⟨⟨A1, a1, c1⟩, ⟨A2, a2, c2⟩, rk, us, hs'⟩, ⟨k, s, dd, ep, lf, fl, gn, sq, fo, xs, ys, rks, te, up, hp⟩, rfl,
      ⟨b1, b2, rk1, up1, hp1, ⟨⟨l1, y1⟩, ⟨l2, y2⟩, rk2, up2, hp2⟩, ⟨i64_of hk, i64_of hs, i64_of hdd, i64_of hfl⟩, ⟨bep, blf, bgn, bsq, bfo, bte⟩, rk3, hp3⟩⟩
end
end Go.Proofs.YtgkihfemlbhioaaDoor
/- What the rows list of the package's table, and a world that holds it. -/
namespace Go.Proofs.YtgkihfemlbhioaaDoor
open Go.ChangeShapes Go.WideShapes Go.ChangeAt Go.RowKit
theorem gTab : Tryd.prog.globalNamed "braidwork/crc.steps" = some 0 := by kernel_rfl
theorem gTabType : (Tryd.prog.globals[0]?).map (·.type) = some 114 := by kernel_rfl
theorem cells48 : Tryd.prog.cellsOf 114 = 16 := by kernel_rfl
theorem cells24 : Tryd.prog.cellsOf 46 = 1 := by kernel_rfl
theorem tabW_laid {W : World} (h : laidMetH Tryd.prog [("braidwork/crc.steps", Rows.laid_braidwork_crc_steps)] W) : TabW W :=
  Lib.tabIs_of_head (rest := []) gTab gTabType Tryd.underlying114 Tryd.underlying46 cells24 cells48 h
/-- A world for the witness: the settled one, the table holding what its initialiser lays. -/
noncomputable def laidWorld (os : Os) : World :=
  { World.holding Tryd.prog os ⟨#[], #[], []⟩ with heap := (World.holding Tryd.prog os ⟨#[], #[], []⟩).heap.modify 0 fun
      | .cells _ t frozen => .cells #[.int .u32 0, .int .u32 498536548, .int .u32 997073096, .int .u32 651767980, .int .u32 1994146192, .int .u32 1802195444, .int .u32 1303535960, .int .u32 1342533948, .int .u32 3988292384, .int .u32 4027552580, .int .u32 3604390888, .int .u32 3412177804, .int .u32 2607071920, .int .u32 2262029012, .int .u32 2685067896, .int .u32 3183342108] t frozen
      | o => o }
end Go.Proofs.YtgkihfemlbhioaaDoor
