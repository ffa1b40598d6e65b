/- Both sources side by side; arguments: a beginning, a slice of calls. -/
import Derived.Test.YtcafofffgmaepaaSL
import Derived.Test.YtcafofffgmaepaaMine
import Derived.Test.YtcafofffgmaepaaStructs
import Derived.Test.YtcafofffgmaepaaPadw
namespace Go.Proofs.Ytcafofffgmaepaa
open Go.RowKit Go.ChangeShapes Go.WideShapes Go.Deep
set_option linter.unusedVariables false
set_option linter.unusedSimpArgs false
/-- A call told by data. -/
structure CallV where
  what : Int
  by_ : RowV
  n : Nat
  sent : Nat
/-- A slice of n calls at A, below block B. -/
def CallsAt (w : World) (B : Nat) (A : Option Addr) (n : Nat) (l : List CallV) : Prop :=
  l.length = n ∧ (∀ a ∈ l, (Bytes w B a.by_.A a.by_.n a.by_.xs ∧ a.by_.n ≤ 140737488351232 ∧ a.by_.n ≤ a.by_.c) ∧ a.n < 18446744073709551616 ∧ a.sent < 18446744073709551616) ∧
  (0 < n → ∃ b off, A = some ⟨b, off, none⟩ ∧ b < B ∧ ∀ i a, l[i]? = some a → w.cell? ⟨b, off + i * 4, none⟩ = some (.int .i64 a.what) ∧ w.cell? ⟨b, off + i * 4 + 1, none⟩ = some a.by_.val ∧ w.cell? ⟨b, off + i * 4 + 2, none⟩ = some (.int .u64 (a.n : Int)) ∧ w.cell? ⟨b, off + i * 4 + 3, none⟩ = some (.int .u64 (a.sent : Int)))
theorem CallsAt.at_ {w wr : World} {A : Option Addr} {m j : Nat} {l : List CallV} (h : CallsAt w w.heap.size A m l) (k : Keep w wr) (hj : j < m) :
    ∃ (b off : Nat) (x : Int) (v : RowV) (p q : Nat), A = some ⟨b, off, none⟩ ∧ b < w.heap.size ∧ wr.cell? ⟨b, off + j * 4, none⟩ = some (.int .i64 x) ∧ wr.cell? ⟨b, off + j * 4 + 1, none⟩ = some (.slice v.A v.n v.c) ∧ wr.cell? ⟨b, off + j * 4 + 2, none⟩ = some (.int .u64 (p : Int)) ∧ wr.cell? ⟨b, off + j * 4 + 3, none⟩ = some (.int .u64 (q : Int)) ∧
      Bytes wr w.heap.size v.A v.n v.xs ∧ v.n ≤ 140737488351232 ∧ v.n ≤ v.c ∧ p < 18446744073709551616 ∧ q < 18446744073709551616 := by
  obtain ⟨b, off, rfl, hb, hc⟩ := h.2.2 (by omega)
  have hl : j < l.length := by rw [h.1]; exact hj
  obtain ⟨⟨h1, h2, h3⟩, h4, h5⟩ := h.2.1 _ (List.getElem_mem hl)
  obtain ⟨c0, c1, c2, c3⟩ := hc j _ (List.getElem?_eq_getElem hl)
  have hk : ∀ o v, w.cell? ⟨b, o, none⟩ = some v → wr.cell? ⟨b, o, none⟩ = some v := fun o v hv => (Below.cell (B := w.heap.size) k (show b < w.heap.size by omega)).trans hv
  exact ⟨b, off, l[j].what, l[j].by_, l[j].n, l[j].sent, rfl, hb, hk _ _ c0, hk _ _ c1, hk _ _ c2, hk _ _ c3, h1.keep (Nat.le_refl _) k, h2, h3, h4, h5⟩
section
variable {H : Type} {enc : TypeId × Value → H} {P : Program} {W : World}
theorem u64_of {a : Int} (h : (Lit.int .u64 a).wf = true) : ∃ n : Nat, a = n ∧ n < 18446744073709551616 := by
  have h2 := bounds_u64 h
  obtain ⟨n, rfl⟩ := Int.eq_ofNat_of_zero_le h2.1
  exact ⟨n, rfl, by omega⟩
theorem arg_calls {t e ti tu tq te : TypeId} {f0 f1 f2 f3 : Field} (ht : P.underlying t = some (.slice e)) (he : P.underlying e = some (.struct #[f0, f1, f2, f3])) (hone : oneCellFields P #[f0, f1, f2, f3] = true) (hC : P.cellsOf e = 4) (hbe : 1 ≤ P.bytesOf e)
    (hf0 : f0.type = ti) (hf1 : f1.type = tu) (hf2 : f2.type = tq) (hf3 : f3.type = tq) (hti : P.underlying ti = some (.int .i64)) (htq : P.underlying tq = some (.int .u64)) (hu : P.underlying tu = some (.slice te)) (hte : P.underlying te = some (.int .u8)) (hc : P.cellsOf te = 1) (hb : P.bytesOf te = 1)
    {ts : List TypeId} {ds : List (DataW H)} (hsz : (DataW.weightsEach P ts ds).all (· ≤ reachBytes) = true) {j : Nat} (hj : ts[j]? = some t) {v : Value} {d : DataW H} {p : List MemPlace} (hd : ds[j]? = some d)
    {base : Nat} (hv : Value.okWide P W .any base t v) (h : DataW.Trod enc P W 0 (fun _ => true) true t v d p) :
    ∃ (A : Option Addr) (n c : Nat) (l : List CallV), v = .slice A n c ∧ CallsAt W W.heap.size A n l ∧ n ≤ 140737488351232 ∧ n ≤ c := by
  obtain ⟨A, n, c, l, rfl, hA, hn, hnc, hl⟩ := arg_structs ht he hone hC (by show 0 < 4; decide) hbe hsz hj hd hv h
  have each : ∀ i, i < n → ∃ a : CallV, l[i]? = some [.int .i64 a.what, a.by_.val, .int .u64 (a.n : Int), .int .u64 (a.sent : Int)] ∧ (Bytes W W.heap.size a.by_.A a.by_.n a.by_.xs ∧ a.by_.n ≤ 140737488351232 ∧ a.by_.n ≤ a.by_.c) ∧ a.n < 18446744073709551616 ∧ a.sent < 18446744073709551616 := fun i hi => by
    have hil : i < l.length := by rw [hA.1]; exact hi
    have hm := List.getElem_mem hil
    have hlen : l[i].length = 4 := hA.2.1 _ hm
    obtain ⟨u0, d0, p0, m0, e0, t0, w0⟩ := hl _ hm 0 f0 rfl
    obtain ⟨u1, d1, p1, m1, e1, t1, w1⟩ := hl _ hm 1 f1 rfl
    obtain ⟨u2, d2, p2, m2, e2, t2, w2⟩ := hl _ hm 2 f2 rfl
    obtain ⟨u3, d3, p3, m3, e3, t3, w3⟩ := hl _ hm 3 f3 rfl
    rw [List.getElem?_eq_getElem hil]
    match hx : l[i], hlen with
    | [x0, x1, x2, x3], _ =>
      rw [hx] at e0 e1 e2 e3
      simp at e0 e1 e2 e3
      subst e0 e1 e2 e3
      rw [hf0] at t0
      rw [hf1] at t1 w1
      rw [hf2] at t2
      rw [hf3] at t3
      obtain ⟨a, rfl, _⟩ := int_of hti t0
      obtain ⟨A1, n1, c1, y1, rfl, b1, l1, k1⟩ := bytes_of hu hte hc hb t1 w1
      obtain ⟨x, rfl, hx2⟩ := int_of htq t2
      obtain ⟨y, rfl, hy2⟩ := int_of htq t3
      obtain ⟨x', rfl, hx3⟩ := u64_of hx2
      obtain ⟨y', rfl, hy3⟩ := u64_of hy2
      exact ⟨⟨a, ⟨A1, n1, c1, y1⟩, x', y'⟩, rfl, ⟨b1, l1, k1⟩, hx3, hy3⟩
  have : Inhabited CallV := ⟨⟨0, ⟨none, 0, 0, []⟩, 0, 0⟩⟩
  obtain ⟨R, hR⟩ := choose_lt each
  refine ⟨A, n, c, (List.range n).map R, rfl, ⟨by simp, fun a ha => ?_, fun hp => ?_⟩, hn, hnc⟩
  · obtain ⟨i, hi, rfl⟩ := List.mem_map.1 ha
    exact (hR i (List.mem_range.1 hi)).2
  · obtain ⟨b, off, e, hbl, hcl⟩ := hA.2.2 hp
    refine ⟨b, off, e, hbl, fun i a hi => ?_⟩
    have hin : i < n := by
      rcases Nat.lt_or_ge i n with h | h
      · exact h
      · rw [List.getElem?_eq_none (by simpa using h)] at hi; cases hi
    have hai : a = R i := by simp [hin] at hi; exact hi.symm
    subst hai
    have hli := (hR i hin).1
    refine ⟨?_, ?_, ?_, ?_⟩
    · exact hcl i _ 0 _ hli rfl
    · have := hcl i _ 1 _ hli rfl; rwa [← Nat.add_assoc] at this
    · have := hcl i _ 2 _ hli rfl; rwa [← Nat.add_assoc] at this
    · have := hcl i _ 3 _ hli rfl; rwa [← Nat.add_assoc] at this
theorem bool_of {t : TypeId} (ht : P.underlying t = some .bool) {v : Value} {d : DataW H} {p : List MemPlace} {fuel : Nat} (h : DataW.trod enc P W 0 (fun _ => true) true fuel t [v] = some (d, p)) : ∃ a : Bool, v = .bool a := by
  obtain ⟨a, e, _⟩ := DataW.trod_bool ht h
  simp at e
  exact ⟨a, e⟩
theorem arg_begin {t ts' ti tu tb e ei : TypeId} {f0 f1 f2 f3 f4 h0 h1 : Field} (ht : P.underlying t = some (.struct #[f0, f1, f2, f3, f4])) (hC : P.cellsOf t = 6)
    (ho0 : f0.offset = 0) (ho1 : f1.offset = 1) (ho2 : f2.offset = 2) (ho3 : f3.offset = 4) (ho4 : f4.offset = 5) (hf0 : f0.type = ei) (hf1 : f1.type = ei) (hf2 : f2.type = ts') (hf3 : f3.type = tb) (hf4 : f4.type = tb)
    (hts : P.underlying ts' = some (.struct #[h0, h1])) (hcs : P.cellsOf ts' = 2) (hp0 : h0.offset = 0) (hp1 : h1.offset = 1) (hh0 : h0.type = tu) (hh1 : h1.type = ti)
    (hi : P.underlying ti = some (.slice ei)) (hcti : P.cellsOf ti = 1) (hei : P.underlying ei = some (.int .i64)) (hci : P.cellsOf ei = 1) (hbi : 1 ≤ P.bytesOf ei) (hu : P.underlying tu = some (.slice e)) (hcu : P.cellsOf tu = 1) (he : P.underlying e = some (.int .u8)) (hc : P.cellsOf e = 1) (hb : P.bytesOf e = 1) (htb : P.underlying tb = some .bool) (hcb : P.cellsOf tb = 1)
    {ts : List TypeId} {ds : List (DataW H)} (hsz : (DataW.weightsEach P ts ds).all (· ≤ reachBytes) = true) {j : Nat} (hj : ts[j]? = some t) {v : Value} {d : DataW H} {p : List MemPlace} (hd : ds[j]? = some d)
    {base : Nat} (hv : Value.okWide P W .any base t v) (h : DataW.Trod enc P W 0 (fun _ => true) true t v d p) :
    ∃ (g s : Int) (n1 c1 n2 c2 : Nat) (A1 A2 : Option Addr) (xs : List Nat) (l : List Int) (cl rs : Bool), v = .agg #[.int .i64 g, .int .i64 s, .slice A1 n1 c1, .slice A2 n2 c2, .bool cl, .bool rs] ∧
      (Bytes W W.heap.size A1 n1 xs ∧ n1 ≤ 140737488351232 ∧ n1 ≤ c1) ∧ IntsAt W W.heap.size A2 n2 l ∧ (∀ z ∈ l, -9223372036854775808 ≤ z ∧ z ≤ 9223372036854775807) ∧ n2 ≤ 140737488351232 ∧ n2 ≤ c2 := by
  obtain ⟨cs, rfl, hl⟩ : ∃ cs : List Value, v = .agg cs.toArray ∧ cs.length = 6 := by
    simp only [Value.okWide, ht] at hv
    obtain ⟨cs, h1, h2, _⟩ := hv
    exact ⟨cs.toList, by rw [h1], by rw [Array.length_toList, h2, hC]⟩
  have hw : ∀ q ∈ d.weights P t, q ≤ reachBytes := fun q hq => by
    have := List.all_eq_true.1 hsz q (DataW.weights_mem_each hj hd q hq)
    simpa using this
  obtain ⟨fuel, hf⟩ := h
  have hcl : (Value.agg cs.toArray).cells.toList = cs := by simp [Value.cells]
  rw [hcl] at hf
  match cs, hl with
  | [v0, v1, v2, v3, v4, v5], _ =>
    have hh := fields_of ht hf hw
    obtain ⟨d0, p0, m0, t0, w0⟩ := hh 0 f0 rfl
    obtain ⟨d1, p1, m1, t1, w1⟩ := hh 1 f1 rfl
    obtain ⟨d2, p2, m2, t2, w2⟩ := hh 2 f2 rfl
    obtain ⟨d3, p3, m3, t3, w3⟩ := hh 3 f3 rfl
    obtain ⟨d4, p4, m4, t4, w4⟩ := hh 4 f4 rfl
    rw [hf0, ho0, hci] at t0
    rw [hf1, ho1, hci] at t1
    rw [hf2, ho2, hcs] at t2
    rw [hf2] at w2
    rw [hf3, ho3, hcb] at t3
    rw [hf4, ho4, hcb] at t4
    obtain ⟨g, rfl, hg⟩ := int_of hei (show DataW.trod enc P W 0 (fun _ => true) true m0 ei [v0] = some (d0, p0) from t0)
    obtain ⟨s, rfl, hs⟩ := int_of hei (show DataW.trod enc P W 0 (fun _ => true) true m1 ei [v1] = some (d1, p1) from t1)
    have h2 := fields_of hts (show DataW.trod enc P W 0 (fun _ => true) true m2 ts' [v2, v3] = some (d2, p2) from t2) w2
    obtain ⟨e0, q0, k0, u0, x0⟩ := h2 0 h0 rfl
    obtain ⟨e1, q1, k1, u1, x1⟩ := h2 1 h1 rfl
    rw [hh0, hp0, hcu] at u0
    rw [hh0] at x0
    rw [hh1, hp1, hcti] at u1
    rw [hh1] at x1
    obtain ⟨A1, n1, c1, xs, rfl, b1, l1, y1⟩ := bytes_of hu he hc hb (show DataW.trod enc P W 0 (fun _ => true) true k0 tu [v2] = some (e0, q0) from u0) x0
    obtain ⟨A2, n2, c2, l, rfl, b2, z2, l2, y2⟩ := ints_of hi hei hci hbi (show DataW.trod enc P W 0 (fun _ => true) true k1 ti [v3] = some (e1, q1) from u1) x1
    obtain ⟨cl, rfl⟩ := bool_of htb (show DataW.trod enc P W 0 (fun _ => true) true m3 tb [v4] = some (d3, p3) from t3)
    obtain ⟨rs, rfl⟩ := bool_of htb (show DataW.trod enc P W 0 (fun _ => true) true m4 tb [v5] = some (d4, p4) from t4)
    exact ⟨g, s, n1, c1, n2, c2, A1, A2, xs, l, cl, rs, rfl, ⟨b1, l1, y1⟩, b2, z2, l2, y2⟩
end
/-- Both sources, side by side, of new memory. -/
structure BothS (w wr : World) (F E : Nat → Prop) (b d g s P : Nat) (xs cs : List Nat) (cl : Bool) : Prop where
  q : SrcR wr F b g s xs cs (gensN (P - 4) cs xs) cl
  r : RefR wr E d g s xs cs cl
  good : GoodS g s P xs cs (gensN (P - 4) cs xs)
  apart : ∀ i, F i → ¬ E i
  low : ∀ i, F i ∨ E i → w.heap.size ≤ i
  keep : Keep w wr
section
variable {w wr w1 w2 w3 w' : World} {F F' E E' G : Nat → Prop} {b d g s P : Nat} {xs cs xs' cs' : List Nat} {cl cl' : Bool}
theorem BothS.other (h : BothS w wr F E b d g s P xs cs cl) (k : Turned G wr w') (hG : ∀ i, G i → ¬ F i ∧ ¬ E i ∧ w.heap.size ≤ i) : BothS w w' F E b d g s P xs cs cl :=
  ⟨h.q.turned k fun i hi e => (hG i e).1 hi, h.r.turned k fun i hi e => (hG i e).2.1 hi, h.good, h.apart, h.low, k.keep h.keep fun i e => (hG i e).2.2⟩
theorem BothS.later (h : BothS w wr F E b d g s P xs cs cl) (k : Keep wr w') : BothS w w' F E b d g s P xs cs cl :=
  h.other (G := fun _ => False) (Turned.of_keep k) fun _ e => e.elim
/-- Both have turned. -/
theorem BothS.step (h : BothS w w1 F E b d g s P xs cs cl) (q' : Wrote F w1 b g s xs' cs' (gensN (P - 4) cs' xs') cl' w2) (r' : RWrote E w2 d g s xs' cs' cl' w3) (hG : GoodS g s P xs' cs' (gensN (P - 4) cs' xs')) :
    ∃ F' E', BothS w w3 F' E' b d g s P xs' cs' cl' ∧ (∀ i, F' i ∨ E' i → F i ∨ E i ∨ w1.heap.size ≤ i) ∧ Turned (fun i => F i ∨ E i) w1 w3 := by
  obtain ⟨F', q', k', f'⟩ := q'
  obtain ⟨E', r', k2, s'⟩ := r'
  have a1 : ∀ i, F' i → ¬ E i := fun i hi e => by
    rcases f' i hi with h1 | h1
    · exact h.apart i h1 e
    · have := h.r.lt i e; omega
  have z := h.keep.size
  have z2 := k'.size
  refine ⟨F', E', ⟨q'.turned k2 fun i hi e => a1 i hi (e ▸ h.r.at_), r', hG, fun i hi e => ?_, fun i hi => ?_, k2.keep (k'.keep h.keep fun i e => h.low i (Or.inl e)) fun i e => e ▸ h.low d (Or.inr h.r.at_)⟩, fun i hi => ?_, (k'.mono fun i _ e => Or.inl e).trans k2 fun i e => ?_⟩
  · rcases s' i e with h1 | h1
    · exact a1 i hi h1
    · have := q'.lt i hi; omega
  · rcases hi with hi | hi
    · rcases f' i hi with h1 | h1
      · exact h.low i (Or.inl h1)
      · omega
    · rcases s' i hi with h1 | h1
      · exact h.low i (Or.inr h1)
      · omega
  · rcases hi with hi | hi
    · rcases f' i hi with h1 | h1
      · exact Or.inl h1
      · exact Or.inr (Or.inr h1)
    · rcases s' i hi with h1 | h1
      · exact Or.inr (Or.inl h1)
      · exact Or.inr (Or.inr (by omega))
  · have e : i = d := e
    exact Or.inl (Or.inr (e ▸ h.r.at_))
theorem Bytes.turned_low {B n : Nat} {A : Option Addr} {ys : List Nat} (h : Bytes w B A n ys) (k : Turned G w w') (hG : ∀ i, i < B → ¬ G i) : Bytes w' B A n ys := ⟨h.1, h.2.1, fun hp => by
  obtain ⟨b, off, e, hb, hc⟩ := h.2.2 hp
  exact ⟨b, off, e, hb, fun i hi => k.cell (hc i hi) (hG b hb)⟩⟩
end
/-- The same rows. -/
theorem same_true (B1 B2 B3 B4 n1 c1 n2 c2 n3 c3 n4 c4 : Nat) (A1 A2 A3 A4 : Option Addr) (C D : List Nat) (w : World) (h1 : Bytes w B1 A1 n1 C) (h2 : Bytes w B2 A2 n2 D) (h3 : Bytes w B3 A3 n3 C) (h4 : Bytes w B4 A4 n4 D) (k1 : B1 ≤ w.heap.size) (k2 : B2 ≤ w.heap.size) (k3 : B3 ≤ w.heap.size) (k4 : B4 ≤ w.heap.size) :
    Calls Try.prog 25 #[.agg #[.slice A1 n1 c1, .slice A2 n2 c2], .agg #[.slice A3 n3 c3, .slice A4 n4 c4]] w fun e w' => e = .returned (.bool true) ∧ Keep w w' := by
  obtain ⟨w1, hw1, z1, q1, -⟩ := one_block w #[.slice A1 n1 c1, .slice A2 n2 c2] 56
  obtain ⟨w2, hw2, z2, q2, -⟩ := one_block w1 #[.slice A3 n3 c3, .slice A4 n4 c4] 56
  have q : Keep w w2 := q1.trans q2
  have H1 := Lib.hid (h1.keep k1 q)
  have H2 := Lib.hid (h2.keep k2 q)
  have H3 := Lib.hid (h3.keep k3 q)
  have H4 := Lib.hid (h4.keep k4 q)
  have Q := Lib.hid q
  have x0 : w2.cell? ⟨w.heap.size, 0, none⟩ = some (.slice A1 n1 c1) := (q2.cell (p := ⟨w.heap.size, 0, none⟩) (by show w.heap.size < _; omega)).trans (by rw [← hw1]; exact cell_of_row _ _ _ _ _ _ (heap_alloc_new w _))
  have x1 : w2.cell? ⟨w.heap.size, 1, none⟩ = some (.slice A2 n2 c2) := (q2.cell (p := ⟨w.heap.size, 1, none⟩) (by show w.heap.size < _; omega)).trans (by rw [← hw1]; exact cell_of_row _ _ _ _ _ _ (heap_alloc_new w _))
  have x2 : w2.cell? ⟨w1.heap.size, 0, none⟩ = some (.slice A3 n3 c3) := by rw [← hw2]; exact cell_of_row _ _ _ _ _ _ (heap_alloc_new w1 _)
  have x3 : w2.cell? ⟨w1.heap.size, 1, none⟩ = some (.slice A4 n4 c4) := by rw [← hw2]; exact cell_of_row _ _ _ _ _ _ (heap_alloc_new w1 _)
  clear h1 h2 h3 h4 q q1 q2 z1 z2 k1 k2 k3 k4
  go_enter Try.func25, Try.ntmps25
  go_wp2_with fail
  refine (equal_any _ _ n1 n3 _ _ _ _ _ _ _ H1.out H3.out).mono ?_
  rw [decide_eq_true rfl]
  rintro e w3 ⟨rfl, rfl⟩
  go_wp2_with fail
  refine (equal_any _ _ n2 n4 _ _ _ _ _ _ _ H2.out H4.out).mono ?_
  rw [decide_eq_true rfl]
  rintro e w3 ⟨rfl, rfl⟩
  go_wp2_with fail
  go_ret
  exact ⟨rfl, Q.out⟩
end Go.Proofs.Ytcafofffgmaepaa
/- Both sources, made; one's own copy beside them. -/
namespace Go.Proofs.Ytcafofffgmaepaa
open Go.RowKit
set_option linter.unusedVariables false
set_option linter.unusedSimpArgs false
theorem rnew_bad (g s : Int) (hb : ¬ MayG g s) (w : World) : Calls Try.prog 10 #[.int .i64 g, .int .i64 s] w fun e w' => e = .returned (.tuple #[.pointer none, .int .i64 1]) ∧ Keep w w' := by
  have HR := Lib.hid (rrestore_bad (w := w) g s 0 0 0 0 none none [] [] 1 false (by omega) (fun w' k => rchunks_out g s hb none none 0 0 0 0 w') (Or.inl (by decide)))
  clear hb
  go_enter Try.func10, Try.ntmps10
  go_wp2_with fail
  refine HR.out.mono ?_
  rintro e w1 ⟨rfl, k⟩
  have K := Lib.hid k
  clear k
  go_wp2_with fail
  go_ret2
  exact ⟨rfl, K.out⟩
theorem new_told (g s : Int) (w : World) : Calls Try.prog 9 #[.int .i64 g, .int .i64 s] w fun e w' => ∃ v er, e = .returned (.tuple #[v, .int .i64 er]) ∧ Keep w w' ∧
    ((¬ MayG g s ∧ v = .pointer none ∧ er = 1) ∨ (MayG g s ∧ ∀ G S P : Nat, g = G → s = S → SizeS G S P → ∃ b F, v = .pointer (some ⟨b, 0, none⟩) ∧ er = 0 ∧ SrcR w' F b G S [] [] [] false ∧ ∀ i, F i → w.heap.size ≤ i)) := by
  by_cases h : MayG g s
  · obtain ⟨G, S, P, rfl, rfl, hz⟩ := h.size
    refine (new_good G S P hz w).mono ?_
    rintro e w' ⟨b, F, rfl, h1, h2, h3⟩
    refine ⟨_, _, rfl, h3, Or.inr ⟨h, fun G' S' P' e1 e2 _ => ?_⟩⟩
    obtain rfl : G = G' := by exact_mod_cast e1
    obtain rfl : S = S' := by exact_mod_cast e2
    exact ⟨b, F, rfl, rfl, h1, h2⟩
  · refine (new_bad g s h w).mono ?_
    rintro e w' ⟨rfl, k⟩
    exact ⟨_, _, rfl, k, Or.inl ⟨h, rfl, rfl⟩⟩
theorem rnew_told (g s : Int) (w : World) : Calls Try.prog 10 #[.int .i64 g, .int .i64 s] w fun e w' => ∃ v er, e = .returned (.tuple #[v, .int .i64 er]) ∧ Keep w w' ∧
    ((¬ MayG g s ∧ v = .pointer none ∧ er = 1) ∨ (MayG g s ∧ ∀ G S P : Nat, g = G → s = S → SizeS G S P → ∃ b E, v = .pointer (some ⟨b, 0, none⟩) ∧ er = 0 ∧ RefR w' E b G S [] [] false ∧ ∀ i, E i → w.heap.size ≤ i)) := by
  by_cases h : MayG g s
  · obtain ⟨G, S, P, rfl, rfl, hz⟩ := h.size
    refine (rnew_good G S P hz w).mono ?_
    rintro e w' ⟨b, F, rfl, h1, h2, h3⟩
    refine ⟨_, _, rfl, h3, Or.inr ⟨h, fun G' S' P' e1 e2 _ => ?_⟩⟩
    obtain rfl : G = G' := by exact_mod_cast e1
    obtain rfl : S = S' := by exact_mod_cast e2
    exact ⟨b, F, rfl, rfl, h1, h2⟩
  · refine (rnew_bad g s h w).mono ?_
    rintro e w' ⟨rfl, k⟩
    exact ⟨_, _, rfl, k, Or.inl ⟨h, rfl, rfl⟩⟩
theorem BothS.begin_ {W w1 w2 : World} {F E : Nat → Prop} {b d g s P : Nat} {xs cs : List Nat} {cl : Bool} (hG : GoodS g s P xs cs (gensN (P - 4) cs xs)) {w0 : World} (k0 : Keep W w0) (hq : SrcR w1 F b g s xs cs (gensN (P - 4) cs xs) cl) (hF : ∀ i, F i → w0.heap.size ≤ i) (k1 : Keep w0 w1) (hr : RefR w2 E d g s xs cs cl) (hE : ∀ i, E i → w1.heap.size ≤ i) (k2 : Keep w1 w2) : BothS W w2 F E b d g s P xs cs cl :=
  ⟨hq.keep k2, hr, hG, fun i hi e => by have := hq.lt i hi; have := hE i e; omega, fun i hi => by
    have := k0.size
    have := k1.size
    rcases hi with h | h
    · have := hF i h; omega
    · have := hE i h; omega, (k0.trans k1).trans k2⟩
theorem gens_start {P : Nat} {g s : Nat} (hz : SizeS g s P) : gensN (P - 4) [] [] = [] := (gens_bare (by have := hz.lo; omega)).1
/-- One's own slice, far from both. -/
structure Dup (W w : World) (F E : Nat → Prop) (A : Option Addr) (n c : Nat) : Prop where
  mine : Mine W w A n c
  far : ∀ i, (Value.slice A n c).ownBlock = some i → ¬ F i ∧ ¬ E i ∧ i < w.heap.size
section
variable {W w w' : World} {F F' E E' : Nat → Prop} {A : Option Addr} {n c : Nat}
theorem Dup.later (h : Dup W w F E A n c) (k : Keep w w') : Dup W w' F E A n c := ⟨h.mine.keep k, fun i hi => by
  obtain ⟨a, b, e⟩ := h.far i hi
  exact ⟨a, b, Nat.lt_of_lt_of_le e k.size⟩⟩
theorem Dup.turned (h : Dup W w F E A n c) (t : Turned (fun i => F i ∨ E i) w w') (hF : ∀ i, F' i ∨ E' i → F i ∨ E i ∨ w.heap.size ≤ i) : Dup W w' F' E' A n c := by
  obtain ⟨⟨xs, o⟩, hf⟩ := h
  refine ⟨⟨xs, o.turned t fun i hi e => ?_⟩, fun i hi => ?_⟩
  · obtain ⟨a, b, _⟩ := hf i hi
    rcases e with e | e
    · exact a e
    · exact b e
  · obtain ⟨a, b, e⟩ := hf i hi
    refine ⟨fun x => ?_, fun x => ?_, Nat.lt_of_lt_of_le e t.size⟩
    · rcases hF i (Or.inl x) with h | h | h
      · exact a h
      · exact b h
      · omega
    · rcases hF i (Or.inr x) with h | h | h
      · exact a h
      · exact b h
      · omega
end
theorem subX_len (P : Nat) (cl : Bool) (xs cs ys : List Nat) (most : Nat) : (subX P cl xs cs ys most).length ≤ xs.length + ys.length := by
  unfold subX; split
  · rw [List.length_append]; omega
  · omega
theorem flushC_len (P : Nat) (cl : Bool) (xs cs : List Nat) : (flushC P cl xs cs).length ≤ cs.length + 1 := by
  unfold flushC; split
  · simp
  · omega
theorem BothS.mid {w w1 w2 : World} {F E : Nat → Prop} {b d g s P : Nat} {xs cs xs' cs' : List Nat} {M' : List (List Nat)} {cl cl' : Bool} (h : BothS w w1 F E b d g s P xs cs cl) (q : Wrote F w1 b g s xs' cs' M' cl' w2) : RefR w2 E d g s xs cs cl ∧ Turned F w1 w2 := by
  obtain ⟨F', q', k', f'⟩ := q
  exact ⟨h.r.turned k' fun i hi e => h.apart i e hi, k'⟩
theorem equal_true (B B' n m ca cb : Nat) (A A' : Option Addr) (xs : List Nat) (w : World) (h : Bytes w B A n xs) (h' : Bytes w B' A' m xs) :
    Calls Try.prog 31 #[.slice A n ca, .slice A' m cb] w fun e w' => e = .returned (.bool true) ∧ w = w' := by
  have := equal_any B B' n m ca cb A A' xs xs w h h'
  rwa [decide_eq_true rfl] at this
end Go.Proofs.Ytcafofffgmaepaa
