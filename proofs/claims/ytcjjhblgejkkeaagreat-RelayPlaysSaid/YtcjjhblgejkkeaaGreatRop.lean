/- An argument that is a slice of stage 14's ops: an int, two numbers of 64 bits, a row, a slice of bytes. -/
import Derived.Test.YtcjjhblgejkkeaaGreatStructs
import Derived.Test.YtcjjhblgejkkeaaGreatSt
namespace Go.Proofs.YtcjjhblgejkkeaaGreat
open Go.RowKit Go.ChangeShapes Go.WideShapes Go.Deep
set_option linter.unusedVariables false
/-- A call told by data. -/
structure OpV where
  what : Int
  gen : Nat
  sent : Nat
  row : PairV
  by_ : RowV
/-- A slice of n calls at A, below block B. -/
def OpsAt (w : World) (B : Nat) (A : Option Addr) (n : Nat) (l : List OpV) : Prop :=
  l.length = n ∧ (∀ a ∈ l, (Bytes w B a.row.a.A a.row.a.n a.row.a.xs ∧ a.row.a.n ≤ 140737488351232 ∧ a.row.a.n ≤ a.row.a.c) ∧ (Bytes w B a.row.b.A a.row.b.n a.row.b.xs ∧ a.row.b.n ≤ 140737488351232 ∧ a.row.b.n ≤ a.row.b.c) ∧ (Bytes w B a.by_.A a.by_.n a.by_.xs ∧ a.by_.n ≤ 140737488351232 ∧ a.by_.n ≤ a.by_.c) ∧ a.gen < 18446744073709551616 ∧ a.sent < 18446744073709551616) ∧
  (0 < n → ∃ b off, A = some ⟨b, off, none⟩ ∧ b < B ∧ ∀ i a, l[i]? = some a → w.cell? ⟨b, off + i * 6, none⟩ = some (.int .i64 a.what) ∧ w.cell? ⟨b, off + i * 6 + 1, none⟩ = some (.int .u64 (a.gen : Int)) ∧ w.cell? ⟨b, off + i * 6 + 2, none⟩ = some (.int .u64 (a.sent : Int)) ∧ w.cell? ⟨b, off + i * 6 + 3, none⟩ = some a.row.a.val ∧ w.cell? ⟨b, off + i * 6 + 4, none⟩ = some a.row.b.val ∧ w.cell? ⟨b, off + i * 6 + 5, none⟩ = some a.by_.val)
/-- One of them, later. -/
theorem OpsAt.at_ {w wr : World} {A : Option Addr} {m j : Nat} {l : List OpV} (h : OpsAt w w.heap.size A m l) (k : Keep w wr) (hj : j < m) :
    ∃ (b off : Nat) (a : OpV), A = some ⟨b, off, none⟩ ∧ b < w.heap.size ∧ wr.cell? ⟨b, off + j * 6, none⟩ = some (.int .i64 a.what) ∧ wr.cell? ⟨b, off + j * 6 + 1, none⟩ = some (.int .u64 (a.gen : Int)) ∧ wr.cell? ⟨b, off + j * 6 + 2, none⟩ = some (.int .u64 (a.sent : Int)) ∧ wr.cell? ⟨b, off + j * 6 + 3, none⟩ = some (.slice a.row.a.A a.row.a.n a.row.a.c) ∧ wr.cell? ⟨b, off + j * 6 + 4, none⟩ = some (.slice a.row.b.A a.row.b.n a.row.b.c) ∧ wr.cell? ⟨b, off + j * 6 + 5, none⟩ = some (.slice a.by_.A a.by_.n a.by_.c) ∧
      (Bytes wr w.heap.size a.row.a.A a.row.a.n a.row.a.xs ∧ a.row.a.n ≤ 140737488351232 ∧ a.row.a.n ≤ a.row.a.c) ∧ (Bytes wr w.heap.size a.row.b.A a.row.b.n a.row.b.xs ∧ a.row.b.n ≤ 140737488351232 ∧ a.row.b.n ≤ a.row.b.c) ∧ (Bytes wr w.heap.size a.by_.A a.by_.n a.by_.xs ∧ a.by_.n ≤ 140737488351232 ∧ a.by_.n ≤ a.by_.c) ∧ a.gen < 18446744073709551616 ∧ a.sent < 18446744073709551616 := by
  obtain ⟨b, off, rfl, hb, hc⟩ := h.2.2 (by omega)
  have hl := List.getElem?_eq_getElem (l := l) (i := j) (by rw [h.1]; exact hj)
  have hk : ∀ o v, w.cell? ⟨b, o, none⟩ = some v → wr.cell? ⟨b, o, none⟩ = some v := fun o v hv => (Below.cell (B := w.heap.size) k (show b < w.heap.size by omega)).trans hv
  obtain ⟨c0, c1, c2, c3, c4, c5⟩ := hc j _ hl
  obtain ⟨⟨a1, a2⟩, ⟨b1, b2⟩, ⟨d1, d2⟩, e1, e2⟩ := h.2.1 _ (List.mem_of_getElem? hl)
  exact ⟨b, off, _, rfl, hb, hk _ _ c0, hk _ _ c1, hk _ _ c2, hk _ _ c3, hk _ _ c4, hk _ _ c5, ⟨a1.keep (Nat.le_refl _) k, a2⟩, ⟨b1.keep (Nat.le_refl _) k, b2⟩, ⟨d1.keep (Nat.le_refl _) k, d2⟩, e1, e2⟩
theorem u64_op {a : Int} (h : (Lit.int .u64 a).wf = true) : ∃ n : Nat, a = n ∧ n < 18446744073709551616 := by
  have h2 := bounds_u64 h
  obtain ⟨n, rfl⟩ := Int.eq_ofNat_of_zero_le h2.1
  exact ⟨n, rfl, by omega⟩
section
variable {H : Type} {enc : TypeId × Value → H} {P : Program} {W : World}
/-- A reading of a slice of structs, field by field. -/
theorem structs_gen {t e : TypeId} {fs : Array Field} {C : Nat} (ht : P.underlying t = some (.slice e)) (he : P.underlying e = some (.struct fs)) (hC : P.cellsOf e = C) (hpos : 0 < C) (hbe : 1 ≤ P.bytesOf e)
    {v : Value} {d : DataW H} {p : List MemPlace} {fuel : Nat} (h : DataW.trod enc P W 0 (fun _ => true) true fuel t [v] = some (d, p)) (hs : ∀ n ∈ d.weights P t, n ≤ reachBytes) :
    ∃ (A : Option Addr) (n c : Nat) (l : List (List Value)), v = .slice A n c ∧ FieldsAt W W.heap.size A n C l ∧ n ≤ 140737488351232 ∧ n ≤ c ∧
      ∀ r ∈ l, ∀ (j : Nat) (f : Field), fs[j]? = some f → ∃ (d : DataW H) (p : List MemPlace) (m : Nat), DataW.trod enc P W 0 (fun _ => true) true m f.type ((r.drop f.offset).take (P.cellsOf f.type)) = some (d, p) ∧ ∀ q ∈ d.weights P f.type, q ≤ reachBytes := by
  subst hC
  rcases open_slice ht h with ⟨hcs, _⟩ | ⟨a, len, cap, m, n, D, Pl, hcs, _, hl, hm, hmm, hx, hi⟩
  · simp at hcs
    exact ⟨none, 0, 0, [], hcs, ⟨rfl, fun r hr => by simp at hr, fun h => absurd h (by omega)⟩, by omega, by omega, fun r hr => by simp at hr⟩
  · simp at hcs
    have hmc : m = cap := by simpa using hmm
    simp only [Prod.mk.injEq] at hx
    obtain ⟨hde, _⟩ := hx
    have hr : reachBytes = 140737488351232 := by decide
    have hlen : len ≤ 140737488351232 := by
      have h1 := hs ((((List.range len).map D).length + ((List.range (m - len)).map fun j => D (len + j)).length) * P.bytesOf e) (by rw [hde]; simp [DataW.weights, ht])
      simp only [List.length_map, List.length_range] at h1
      have h2 : len * 1 ≤ (len + (m - len)) * P.bytesOf e := Nat.mul_le_mul (by omega) hbe
      omega
    have each : ∀ i, i < len → ∃ r : List Value, r.length = P.cellsOf e ∧ (∀ j u, r[j]? = some u → W.cell? (a.add (i * P.cellsOf e + j)) = some u) ∧
        ∀ (j : Nat) (f : Field), fs[j]? = some f → ∃ (d : DataW H) (p : List MemPlace) (m : Nat), DataW.trod enc P W 0 (fun _ => true) true m f.type ((r.drop f.offset).take (P.cellsOf f.type)) = some (d, p) ∧ ∀ q ∈ d.weights P f.type, q ≤ reachBytes := by
      intro i hin
      obtain ⟨cs', h1, h2⟩ := hi i (by omega)
      obtain ⟨_, hlen', hcell⟩ := World.cells?_some h1
      obtain ⟨xs, k, _, hxy, _, hxl, hf⟩ := DataW.trod_struct he h2
      simp only [Prod.mk.injEq] at hxy
      refine ⟨cs', hlen', fun j u hju => ?_, fun j f hjf => ?_⟩
      · have hj : j < P.cellsOf e := by
          rcases Nat.lt_or_ge j cs'.length with hh | hh
          · omega
          · rw [List.getElem?_eq_none hh] at hju; cases hju
        have hc := hcell j hj
        rw [add_add] at hc
        rw [hc, hju]
      · have hj : j < fs.size := (Array.getElem?_eq_some_iff.1 hjf).1
        have g := hf j f hjf
        rw [List.getElem?_eq_getElem (by omega)] at g
        refine ⟨xs[j].1, xs[j].2, k, g, fun q hq => hs q ?_⟩
        rw [hde]
        simp only [DataW.weights, ht, List.mem_cons, List.mem_append]
        refine Or.inr (Or.inl (weights_all (List.mem_map.2 ⟨i, List.mem_range.2 hin, rfl⟩) q ?_))
        rw [hxy.1]
        simp only [DataW.weights, he]
        exact weights_each (j := j) (t := f.type) (d := xs[j].1) (by rw [List.getElem?_map]; simp [hjf]) (by rw [List.getElem?_map, List.getElem?_eq_getElem (by omega)]; rfl) q hq
    obtain ⟨R, hR⟩ := choose_lt each
    refine ⟨some a, len, cap, (List.range len).map R, hcs, ⟨by simp, fun r hr => ?_, fun hp => ?_⟩, hlen, hl, fun r hr => ?_⟩
    · obtain ⟨i, hin, rfl⟩ := List.mem_map.1 hr
      exact (hR i (List.mem_range.1 hin)).1
    · obtain ⟨b, off, spot⟩ := a
      have hr0 := hR 0 hp
      have h0 := hr0.2.1 0 ((R 0).getD 0 undef) (by simp [List.getD, List.getElem?_eq_getElem (show 0 < (R 0).length by rw [hr0.1]; exact hpos)])
      have hspot : spot = none := by simpa [Addr.add] using World.cell?_spot h0
      subst hspot
      refine ⟨b, off, rfl, World.block_lt_of_cell? W _ (show W.cell? ⟨b, off, none⟩ = _ by simpa [Addr.add] using h0), fun i r j v hir hjv => ?_⟩
      have hin : i < len := by
        rcases Nat.lt_or_ge i len with h | h
        · exact h
        · rw [List.getElem?_eq_none (by simpa using h)] at hir; cases hir
      have hri : r = R i := by simp [hin] at hir; exact hir.symm
      subst hri
      have h1 := (hR i hin).2.1 j v hjv
      have ha : (⟨b, off, none⟩ : Addr).add (i * P.cellsOf e + j) = ⟨b, off + (i * P.cellsOf e + j), none⟩ := by unfold Addr.add; split <;> simp_all
      rwa [ha] at h1
    · obtain ⟨i, hin, rfl⟩ := List.mem_map.1 hr
      exact (hR i (List.mem_range.1 hin)).2.2
/-- An argument that is a slice of ops. -/
theorem arg_ops {t e tr tu te ti tq : TypeId} {f0 f1 f2 f3 f4 g0 g1 : Field} (ht : P.underlying t = some (.slice e)) (he : P.underlying e = some (.struct #[f0, f1, f2, f3, f4])) (hC : P.cellsOf e = 6) (hbe : 1 ≤ P.bytesOf e)
    (hf0 : f0.type = ti ∧ f0.offset = 0) (hf1 : f1.type = tq ∧ f1.offset = 1) (hf2 : f2.type = tq ∧ f2.offset = 2) (hf3 : f3.type = tr ∧ f3.offset = 3) (hf4 : f4.type = tu ∧ f4.offset = 5) (hti : P.underlying ti = some (.int .i64)) (hci : P.cellsOf ti = 1) (htq : P.underlying tq = some (.int .u64)) (hcq : P.cellsOf tq = 1) (htr : P.underlying tr = some (.struct #[g0, g1])) (hcr : P.cellsOf tr = 2) (hg0 : g0.type = tu ∧ g0.offset = 0) (hg1 : g1.type = tu ∧ g1.offset = 1)
    (hu : P.underlying tu = some (.slice te)) (hcu : P.cellsOf tu = 1) (hte : P.underlying te = some (.int .u8)) (hc : P.cellsOf te = 1) (hb : P.bytesOf te = 1)
    {ts : List TypeId} {ds : List (DataW H)} (hsz : (DataW.weightsEach P ts ds).all (· ≤ reachBytes) = true) {j : Nat} (hj : ts[j]? = some t) {v : Value} {d : DataW H} {p : List MemPlace} (hd : ds[j]? = some d)
    {base : Nat} (hv : Value.okWide P W .any base t v) (h : DataW.Trod enc P W 0 (fun _ => true) true t v d p) :
    ∃ (A : Option Addr) (n c : Nat) (l : List OpV), v = .slice A n c ∧ OpsAt W W.heap.size A n l ∧ n ≤ 140737488351232 ∧ n ≤ c := by
  obtain ⟨A, n, c, rfl⟩ := okWide_slice ht hv
  obtain ⟨fuel, hf⟩ := h
  obtain ⟨A', n', c', l, e0, hA, hn, hnc, hl⟩ := structs_gen ht he hC (by omega) hbe (fuel := fuel) (by simpa [Value.cells] using hf) fun n hn => by
    have := List.all_eq_true.1 hsz n (DataW.weights_mem_each hj hd n hn)
    simpa using this
  have each : ∀ i, i < n' → ∃ a : OpV, l[i]? = some [.int .i64 a.what, .int .u64 (a.gen : Int), .int .u64 (a.sent : Int), a.row.a.val, a.row.b.val, a.by_.val] ∧ (Bytes W W.heap.size a.row.a.A a.row.a.n a.row.a.xs ∧ a.row.a.n ≤ 140737488351232 ∧ a.row.a.n ≤ a.row.a.c) ∧ (Bytes W W.heap.size a.row.b.A a.row.b.n a.row.b.xs ∧ a.row.b.n ≤ 140737488351232 ∧ a.row.b.n ≤ a.row.b.c) ∧ (Bytes W W.heap.size a.by_.A a.by_.n a.by_.xs ∧ a.by_.n ≤ 140737488351232 ∧ a.by_.n ≤ a.by_.c) ∧ a.gen < 18446744073709551616 ∧ a.sent < 18446744073709551616 := fun i hi => by
    have hil : i < l.length := by rw [hA.1]; exact hi
    have hm := List.getElem_mem hil
    have hlen := hA.2.1 _ hm
    obtain ⟨d0, p0, m0, t0, w0⟩ := hl _ hm 0 f0 rfl
    obtain ⟨d3, p3, m3, t3, w3⟩ := hl _ hm 1 f1 rfl
    obtain ⟨d4, p4, m4, t4, w4⟩ := hl _ hm 2 f2 rfl
    obtain ⟨d1, p1, m1, t1, w1⟩ := hl _ hm 3 f3 rfl
    obtain ⟨d2, p2, m2, t2, w2⟩ := hl _ hm 4 f4 rfl
    rw [List.getElem?_eq_getElem hil]
    match hx : l[i], hlen with
    | [x0, x4, x5, x1, x2, x3], _ =>
      rw [hx] at t0 t1 t2 t3 t4
      rw [hf0.1, hf0.2, hci] at t0
      rw [hf1.1, hf1.2, hcq] at t3
      rw [hf2.1, hf2.2, hcq] at t4
      rw [hf3.1, hf3.2, hcr] at t1
      rw [hf4.1, hf4.2, hcu] at t2
      rw [hf3.1] at w1
      rw [hf4.1] at w2
      obtain ⟨a, e1, _, _⟩ := DataW.trod_int hti t0
      simp at e1
      obtain ⟨a3, e3, _, hr3⟩ := DataW.trod_int htq t3
      simp at e3
      obtain ⟨a4, e4, _, hr4⟩ := DataW.trod_int htq t4
      simp at e4
      obtain ⟨z3, rfl, hz3⟩ := u64_op hr3
      obtain ⟨z4, rfl, hz4⟩ := u64_op hr4
      obtain ⟨xs, k, _, hxy, _, hxl, hff⟩ := DataW.trod_struct htr t1
      simp only [Prod.mk.injEq] at hxy
      have hx0 := hff 0 g0 rfl
      have hx1 := hff 1 g1 rfl
      rw [hg0.1, hg0.2, hcu, List.getElem?_eq_getElem (l := xs) (i := 0) (by rw [hxl]; simp)] at hx0
      rw [hg1.1, hg1.2, hcu, List.getElem?_eq_getElem (l := xs) (i := 1) (by rw [hxl]; simp)] at hx1
      have hw : ∀ (j : Nat) (f : Field) (hj : j < xs.length), (#[g0, g1] : Array Field)[j]? = some f → ∀ q ∈ (xs[j].1).weights P f.type, q ≤ reachBytes := fun j f hj hjf q hq => w1 q (by
        rw [hxy.1]
        simp only [DataW.weights, htr]
        exact weights_each (j := j) (t := f.type) (d := xs[j].1) (by rw [List.getElem?_map]; simp; exact ⟨f, by simpa using hjf, rfl⟩) (by rw [List.getElem?_map, List.getElem?_eq_getElem hj]; rfl) q hq)
      have hw0 := hw 0 g0 (by rw [hxl]; simp) rfl
      have hw1 := hw 1 g1 (by rw [hxl]; simp) rfl
      rw [hg0.1] at hw0
      rw [hg1.1] at hw1
      obtain ⟨A1, n1, c1, y1, r1, b1, l1, k1⟩ := bytes_of hu hte hc hb hx0 hw0
      obtain ⟨A2, n2, c2, y2, r2, b2, l2, k2⟩ := bytes_of hu hte hc hb hx1 hw1
      obtain ⟨A3, n3, c3, y3, r3, b3, l3, k3⟩ := bytes_of hu hte hc hb t2 w2
      exact ⟨⟨a, z3, z4, ⟨⟨A1, n1, c1, y1⟩, ⟨A2, n2, c2, y2⟩⟩, ⟨A3, n3, c3, y3⟩⟩, by rw [e1, e3, e4, r1, r2, r3]; rfl, ⟨b1, l1, k1⟩, ⟨b2, l2, k2⟩, ⟨b3, l3, k3⟩, hz3, hz4⟩
  have : Inhabited OpV := ⟨⟨0, 0, 0, ⟨⟨none, 0, 0, []⟩, ⟨none, 0, 0, []⟩⟩, ⟨none, 0, 0, []⟩⟩⟩
  obtain ⟨R, hR⟩ := choose_lt each
  refine ⟨A', n', c', (List.range n').map R, e0, ⟨by simp, fun a ha => ?_, fun hp => ?_⟩, hn, hnc⟩
  · obtain ⟨i, hi, rfl⟩ := List.mem_map.1 ha
    exact (hR i (List.mem_range.1 hi)).2
  · obtain ⟨b, off, e, hbl, hcl⟩ := hA.2.2 hp
    refine ⟨b, off, e, hbl, fun i a hi => ?_⟩
    have hin : i < n' := by
      rcases Nat.lt_or_ge i n' with h | h
      · exact h
      · rw [List.getElem?_eq_none (by simpa using h)] at hi; cases hi
    have hai : a = R i := by simp [hin] at hi; exact hi.symm
    subst hai
    have hli := (hR i hin).1
    refine ⟨?_, ?_, ?_, ?_, ?_, ?_⟩
    · exact hcl i _ 0 _ hli rfl
    · have := hcl i _ 1 _ hli rfl; rwa [← Nat.add_assoc] at this
    · have := hcl i _ 2 _ hli rfl; rwa [← Nat.add_assoc] at this
    · have := hcl i _ 3 _ hli rfl; rwa [← Nat.add_assoc] at this
    · have := hcl i _ 4 _ hli rfl; rwa [← Nat.add_assoc] at this
    · have := hcl i _ 5 _ hli rfl; rwa [← Nat.add_assoc] at this
end
end Go.Proofs.YtcjjhblgejkkeaaGreat
