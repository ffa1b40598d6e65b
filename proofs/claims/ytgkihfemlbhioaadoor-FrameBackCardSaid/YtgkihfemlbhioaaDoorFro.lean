/- An argument that is a frame, by value. -/
import Derived.Test.YtgkihfemlbhioaaDoorFrm
import Derived.Test.YtgkihfemlbhioaaDoorStructs
import Derived.Deep.Grids
namespace Go.Proofs.YtgkihfemlbhioaaDoor
open Go.RowKit Go.ChangeShapes Go.WideShapes Go.Deep Fr
set_option linter.unusedVariables false
set_option linter.unusedSimpArgs false
section
variable {H : Type} {enc : TypeId × Value → H} {P : Program} {W : World}
/-- The fields of a struct, each read by itself. -/
theorem fields_of {t : TypeId} {fs : Array Field} (ht : P.underlying t = some (.struct fs)) {cs : List Value} {d : DataW H} {p : List MemPlace} {fuel : Nat} (h : DataW.trod enc P W 0 (fun _ => true) true fuel t cs = some (d, p)) (hs : ∀ n ∈ d.weights P t, n ≤ reachBytes) :
    ∀ (i : Nat) (f : Field), fs[i]? = some f → ∃ (d : DataW H) (p : List MemPlace) (m : Nat), DataW.trod enc P W 0 (fun _ => true) true m f.type ((cs.drop f.offset).take (P.cellsOf f.type)) = some (d, p) ∧ ∀ q ∈ d.weights P f.type, q ≤ reachBytes := by
  obtain ⟨xs, k, _, hxy, _, hxl, hff⟩ := DataW.trod_struct ht h
  simp only [Prod.mk.injEq] at hxy
  intro i f hif
  have hi : i < fs.size := (Array.getElem?_eq_some_iff.1 hif).1
  have g := hff i f hif
  rw [List.getElem?_eq_getElem (by omega)] at g
  refine ⟨xs[i].1, xs[i].2, k, g, fun q hq => hs q ?_⟩
  rw [hxy.1]
  simp only [DataW.weights, ht]
  exact weights_each (j := i) (t := f.type) (d := xs[i].1) (by rw [List.getElem?_map]; simp [hif]) (by rw [List.getElem?_map, List.getElem?_eq_getElem (by omega)]; rfl) q hq
theorem int_of {t : TypeId} {k : IntKind} (ht : P.underlying t = some (.int k)) {v : Value} {d : DataW H} {p : List MemPlace} {fuel : Nat} (h : DataW.trod enc P W 0 (fun _ => true) true fuel t [v] = some (d, p)) : ∃ a : Int, v = .int k a ∧ (Lit.int k a).wf = true := by
  obtain ⟨a, e, _, hw⟩ := DataW.trod_int ht h
  simp at e
  exact ⟨a, e, hw⟩
theorem i64_of {a : Int} (h : (Lit.int .i64 a).wf = true) : I64 a := by
  simpa [Lit.wf, IntKind.min, IntKind.max, IntKind.signed, IntKind.bits, I64] using h
theorem u64_of {a : Int} (h : (Lit.int .u64 a).wf = true) : ∃ n : Nat, a = n ∧ U64 n := by
  have h2 : 0 ≤ a ∧ a ≤ 18446744073709551615 := by simpa [Lit.wf, IntKind.min, IntKind.max, IntKind.signed, IntKind.bits] using h
  obtain ⟨n, rfl⟩ := Int.eq_ofNat_of_zero_le h2.1
  exact ⟨n, rfl, by unfold U64; omega⟩
theorem map_choose {α β : Type} {R : β → α → Prop} : ∀ l : List α, (∀ x ∈ l, ∃ y, R y x) → ∃ ys : List β, ys.length = l.length ∧ ∀ (i : Nat) (x : α) (y : β), l[i]? = some x → ys[i]? = some y → R y x
  | [], _ => ⟨[], rfl, fun i x y h _ => by simp at h⟩
  | a :: l, h => by
    obtain ⟨b, hb⟩ := h a (by simp)
    obtain ⟨ys, h1, h2⟩ := map_choose l fun x hx => h x (by simp [hx])
    refine ⟨b :: ys, by simp [h1], fun i x y hx hy => ?_⟩
    cases i with
    | zero => simp at hx hy; subst hx; subst hy; exact hb
    | succ i => simp at hx hy; exact h2 i x y hx hy
/-- Marks. -/
theorem ups_of {t e : TypeId} (ht : P.underlying t = some (.slice e)) (he : P.underlying e = some .bool) (hc : P.cellsOf e = 1) (hb : 1 ≤ P.bytesOf e)
    {v : Value} {d : DataW H} {p : List MemPlace} {fuel : Nat} (h : DataW.trod enc P W 0 (fun _ => true) true fuel t [v] = some (d, p)) (hs : ∀ n ∈ d.weights P t, n ≤ reachBytes) :
    ∃ (s : SlV) (l : List Bool), v = s.val ∧ UpsAt W W.heap.size s.A s.n l ∧ s.ok := by
  rcases open_slice1 ht hc h with ⟨hcs, _⟩ | ⟨a, n, c, m, f2, V, D, Pl, hcs, _, hl, hm, hmm, hx, hi⟩
  · simp at hcs
    exact ⟨⟨none, 0, 0⟩, [], hcs, UpsAt.none_ _ _ _, by simp [SlV.ok]⟩
  · simp at hcs
    subst hcs
    have hmm' : m = c := by simpa using hmm
    simp only [Prod.mk.injEq] at hx
    obtain ⟨hde, _⟩ := hx
    have hr : reachBytes = 140737488351232 := by decide
    have hn : n ≤ 140737488351232 := by
      have h1 := hs ((((List.range n).map D).length + ((List.range (m - n)).map fun j => D (n + j)).length) * P.bytesOf e) (by rw [hde]; simp [DataW.weights, ht])
      simp only [List.length_map, List.length_range] at h1
      have h2 : n * 1 ≤ (n + (m - n)) * P.bytesOf e := Nat.mul_le_mul (by omega) hb
      omega
    rcases open_bools ht he hc h with ⟨hcs, _⟩ | ⟨a', n', c', zs, hcs, _, _, _, _, hcell⟩
    · simp at hcs
    · simp at hcs
      obtain ⟨rfl, rfl, rfl⟩ := hcs
      refine ⟨⟨some a, n, c⟩, (List.range n).map zs, rfl, ⟨by simp, fun hn0 => ?_⟩, ⟨hn, hl⟩⟩
      obtain ⟨b, off, spot⟩ := a
      have hn0 : 0 < n := hn0
      have h0 := hcell 0 (by omega)
      have hspot : spot = none := by simpa [Addr.add] using World.cell?_spot h0
      subst hspot
      refine ⟨b, off, rfl, World.block_lt_of_cell? W _ (show W.cell? ⟨b, off, none⟩ = _ by simpa [Addr.add] using h0), fun i x hx => ?_⟩
      have hin : i < n := by
        rcases Nat.lt_or_ge i n with h | h
        · exact h
        · rw [List.getElem?_eq_none (by simpa using h)] at hx; cases hx
      have h1 := hcell i (by omega)
      have ha : (⟨b, off, none⟩ : Addr).add i = ⟨b, off + i, none⟩ := by unfold Addr.add; split <;> simp_all
      rw [ha] at h1
      simp [hin] at hx
      rw [h1, hx]
/-- Ranks. -/
theorem ranks_of {t e tn ti : TypeId} {f0 f1 : Field} (ht : P.underlying t = some (.slice e)) (he : P.underlying e = some (.struct #[f0, f1])) (hone : oneCellFields P #[f0, f1] = true) (hC : P.cellsOf e = 2) (hbe : 1 ≤ P.bytesOf e)
    (hf0 : f0.type = tn) (hf1 : f1.type = ti) (hn : P.underlying tn = some (.int .u64)) (hi : P.underlying ti = some (.int .i64))
    {v : Value} {d : DataW H} {p : List MemPlace} {fuel : Nat} (h : DataW.trod enc P W 0 (fun _ => true) true fuel t [v] = some (d, p)) (hs : ∀ n ∈ d.weights P t, n ≤ reachBytes) :
    ∃ (s : SlV) (l : List (Nat × Int)), v = s.val ∧ RanksAt W W.heap.size s.A s.n l ∧ s.ok ∧ ∀ r ∈ l, U64 r.1 ∧ I64 r.2 := by
  obtain ⟨A, n, c, l, rfl, h1, h2, h3, h4⟩ := structs_of ht he hone (by rw [hC]; rfl) (by show 0 < 2; omega) hbe h hs
  obtain ⟨ys, e1, e2⟩ := map_choose (R := fun (y : Nat × Int) (x : List Value) => x = [.int .u64 (y.1 : Int), .int .i64 y.2] ∧ U64 y.1 ∧ I64 y.2) l fun r hr => by
    obtain ⟨a, g1, w1⟩ := field_int hn (hf0 ▸ h4 r hr 0 f0 rfl)
    obtain ⟨b, g2, w2⟩ := field_int hi (hf1 ▸ h4 r hr 1 f1 rfl)
    obtain ⟨k, rfl, hk⟩ := u64_of w1
    have hl := h1.2.1 r hr
    match r, hl with
    | [x, y], _ =>
      simp at g1 g2
      exact ⟨(k, b), by rw [g1, g2], hk, i64_of w2⟩
  have hm : ys.map (fun r : Nat × Int => [Value.int .u64 (r.1 : Int), .int .i64 r.2]) = l := by
    apply List.ext_getElem?
    intro i
    rw [List.getElem?_map]
    rcases Nat.lt_or_ge i l.length with hlt | hge
    · rw [List.getElem?_eq_getElem (show i < ys.length by omega), List.getElem?_eq_getElem hlt]
      exact congrArg some (e2 i _ _ (List.getElem?_eq_getElem hlt) (List.getElem?_eq_getElem (by omega))).1.symm
    · rw [List.getElem?_eq_none hge, List.getElem?_eq_none (by omega)]; rfl
  refine ⟨⟨A, n, c⟩, ys, rfl, ?_, ⟨h2, h3⟩, fun r hr => ?_⟩
  · unfold RanksAt; rw [hm]; exact h1
  · obtain ⟨i, hi, rfl⟩ := List.mem_iff_getElem.1 hr
    exact (e2 i _ _ (List.getElem?_eq_getElem (show i < l.length by omega)) (List.getElem?_eq_getElem hi)).2
/-- Edges. -/
theorem edges_of {t e ti : TypeId} {f0 f1 : Field} (ht : P.underlying t = some (.slice e)) (he : P.underlying e = some (.struct #[f0, f1])) (hone : oneCellFields P #[f0, f1] = true) (hC : P.cellsOf e = 2) (hbe : 1 ≤ P.bytesOf e)
    (hf0 : f0.type = ti) (hf1 : f1.type = ti) (hi : P.underlying ti = some (.int .i64))
    {v : Value} {d : DataW H} {p : List MemPlace} {fuel : Nat} (h : DataW.trod enc P W 0 (fun _ => true) true fuel t [v] = some (d, p)) (hs : ∀ n ∈ d.weights P t, n ≤ reachBytes) :
    ∃ (s : SlV) (l : List (Int × Int)), v = s.val ∧ EdgesAt W W.heap.size s.A s.n l ∧ s.ok ∧ ∀ r ∈ l, I64 r.1 ∧ I64 r.2 := by
  obtain ⟨A, n, c, l, rfl, h1, h2, h3, h4⟩ := structs_of ht he hone (by rw [hC]; rfl) (by show 0 < 2; omega) hbe h hs
  obtain ⟨ys, e1, e2⟩ := map_choose (R := fun (y : Int × Int) (x : List Value) => x = [.int .i64 y.1, .int .i64 y.2] ∧ I64 y.1 ∧ I64 y.2) l fun r hr => by
    obtain ⟨a, g1, w1⟩ := field_int hi (hf0 ▸ h4 r hr 0 f0 rfl)
    obtain ⟨b, g2, w2⟩ := field_int hi (hf1 ▸ h4 r hr 1 f1 rfl)
    have hl := h1.2.1 r hr
    match r, hl with
    | [x, y], _ =>
      simp at g1 g2
      exact ⟨(a, b), by rw [g1, g2], i64_of w1, i64_of w2⟩
  have hm : ys.map (fun r : Int × Int => [Value.int .i64 r.1, .int .i64 r.2]) = l := by
    apply List.ext_getElem?
    intro i
    rw [List.getElem?_map]
    rcases Nat.lt_or_ge i l.length with hlt | hge
    · rw [List.getElem?_eq_getElem (show i < ys.length by omega), List.getElem?_eq_getElem hlt]
      exact congrArg some (e2 i _ _ (List.getElem?_eq_getElem hlt) (List.getElem?_eq_getElem (by omega))).1.symm
    · rw [List.getElem?_eq_none hge, List.getElem?_eq_none (by omega)]; rfl
  refine ⟨⟨A, n, c⟩, ys, rfl, ?_, ⟨h2, h3⟩, fun r hr => ?_⟩
  · unfold EdgesAt; rw [hm]; exact h1
  · obtain ⟨i, hi, rfl⟩ := List.mem_iff_getElem.1 hr
    exact (e2 i _ _ (List.getElem?_eq_getElem (show i < l.length by omega)) (List.getElem?_eq_getElem hi)).2
/-- Lists of edges. -/
theorem hops_of {t u e ti : TypeId} {f0 f1 : Field} (ht : P.underlying t = some (.slice u)) (hcu : P.cellsOf u = 1) (hbu : 1 ≤ P.bytesOf u) (hu : P.underlying u = some (.slice e)) (he : P.underlying e = some (.struct #[f0, f1])) (hone : oneCellFields P #[f0, f1] = true) (hC : P.cellsOf e = 2) (hbe : 1 ≤ P.bytesOf e)
    (hf0 : f0.type = ti) (hf1 : f1.type = ti) (hi : P.underlying ti = some (.int .i64))
    {v : Value} {d : DataW H} {p : List MemPlace} {fuel : Nat} (h : DataW.trod enc P W 0 (fun _ => true) true fuel t [v] = some (d, p)) (hs : ∀ n ∈ d.weights P t, n ≤ reachBytes) :
    ∃ (s : SlV) (l : List (List (Int × Int))), v = s.val ∧ HopsAt W W.heap.size s.A s.n l ∧ s.ok ∧ ∀ r ∈ l, ∀ x ∈ r, I64 x.1 ∧ I64 x.2 := by
  rcases open_slice1 ht hcu h with ⟨hcs, _⟩ | ⟨a, n, c, m, f2, V, D, Pl, hcs, _, hl, hm, hmm, hx, hii⟩
  · simp at hcs
    exact ⟨⟨none, 0, 0⟩, [], hcs, HopsAt.none_ _ _ _, by simp [SlV.ok], fun r hr => by simp at hr⟩
  · simp at hcs
    subst hcs
    have hmm' : m = c := by simpa using hmm
    simp only [Prod.mk.injEq] at hx
    obtain ⟨hde, _⟩ := hx
    have hr : reachBytes = 140737488351232 := by decide
    have hn : n ≤ 140737488351232 := by
      have h1 := hs ((((List.range n).map D).length + ((List.range (m - n)).map fun j => D (n + j)).length) * P.bytesOf u) (by rw [hde]; simp [DataW.weights, ht])
      simp only [List.length_map, List.length_range] at h1
      have h2 : n * 1 ≤ (n + (m - n)) * P.bytesOf u := Nat.mul_le_mul (by omega) hbu
      omega
    have each : ∀ i, i < n → ∃ y : SlV × List (Int × Int), V i = y.1.val ∧ EdgesAt W W.heap.size y.1.A y.1.n y.2 ∧ y.1.ok ∧ ∀ r ∈ y.2, I64 r.1 ∧ I64 r.2 := by
      intro i hin
      obtain ⟨_, h2⟩ := hii i (by omega)
      obtain ⟨s, l, e1, e2, e3, e4⟩ := edges_of hu he hone hC hbe hf0 hf1 hi h2 fun k hk => hs k (by
        rw [hde]
        simp only [DataW.weights, ht, List.mem_cons, List.mem_append]
        exact Or.inr (Or.inl (weights_all (List.mem_map.2 ⟨i, List.mem_range.2 hin, rfl⟩) k hk)))
      exact ⟨(s, l), e1, e2, e3, e4⟩
    have : Inhabited (SlV × List (Int × Int)) := ⟨(⟨none, 0, 0⟩, [])⟩
    obtain ⟨R, hR⟩ := choose_lt each
    have look : ∀ (i : Nat), i < n → ((List.range n).map fun i => (R i).1)[i]? = some (R i).1 ∧ ((List.range n).map fun i => (R i).2)[i]? = some (R i).2 := fun i hin => by simp [hin]
    have lt_of : ∀ {α : Type} {g : Nat → α} {i : Nat} {x : α}, ((List.range n).map g)[i]? = some x → i < n := fun {α g i x} hx => by
      rcases Nat.lt_or_ge i n with h | h
      · exact h
      · rw [List.getElem?_eq_none (by simpa using h)] at hx; cases hx
    refine ⟨⟨some a, n, c⟩, (List.range n).map fun i => (R i).2, rfl, ⟨(List.range n).map fun i => (R i).1, by simp, by simp, fun i s r hs2 hr2 => ?_, fun hpos => ?_⟩, ⟨hn, hl⟩, fun r hr => ?_⟩
    · have hin := lt_of hs2
      rw [(look i hin).1] at hs2
      rw [(look i hin).2] at hr2
      injection hs2 with hs2; injection hr2 with hr2
      subst hs2; subst hr2
      exact ⟨(hR i hin).2.1, (hR i hin).2.2.1⟩
    · obtain ⟨b, off, spot⟩ := a
      have hpos : 0 < n := hpos
      have h0 := (hii 0 (by omega)).1
      have hspot : spot = none := by simpa [Addr.add] using World.cell?_spot h0
      subst hspot
      refine ⟨b, off, rfl, World.block_lt_of_cell? W _ (show W.cell? ⟨b, off, none⟩ = _ by simpa [Addr.add] using h0), fun i s hs2 => ?_⟩
      have hin := lt_of hs2
      have h1 := (hii i (by omega)).1
      have ha : (⟨b, off, none⟩ : Addr).add i = ⟨b, off + i, none⟩ := by unfold Addr.add; split <;> simp_all
      rw [ha] at h1
      rw [(look i hin).1] at hs2
      injection hs2 with hs2
      subst hs2
      rw [h1, (hR i hin).1]
    · obtain ⟨i, hin, rfl⟩ := List.mem_map.1 hr
      exact (hR i (List.mem_range.1 hin)).2.2.2
end
end Go.Proofs.YtgkihfemlbhioaaDoor
