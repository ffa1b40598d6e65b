/- What layer 7's statements lay, kept apart from the bases. -/
import Derived.Test.YtofhdaeeiienfaaBlaid
import Derived.Test.YtofhdaeeiienfaaBas
import Derived.Test.YtofhdaeeiienfaaEqual
import Derived.Test.YtofhdaeeiienfaaBd
namespace Go.Proofs.Ytofhdaeeiienfaa
open Go.RowKit
set_option linter.unusedVariables false
/-- Symbols and rows, below block N. -/
structure Setup (N : Nat) (w : World) (g s : Nat) (M : List (List Nat)) (As : Option Addr) (rss : List RowV) (Ar : Option Addr) (k : Nat) (ps : List PairV) : Prop where
  sy : RowsIn w (· < N) As g rss
  rows : StIn w (· < N) Ar k ps
  le : N ≤ w.heap.size
namespace Setup
variable {N g s k : Nat} {w w' : World} {M : List (List Nat)} {As Ar : Option Addr} {rss : List RowV} {ps : List PairV} {G : Nat → Prop}
theorem turned (h : Setup N w g s M As rss Ar k ps) (t : Turned G w w') (hG : ∀ b, G b → N ≤ b) : Setup N w' g s M As rss Ar k ps :=
  ⟨h.sy.turned t fun b hb e => by have := hG b e; have hb : b < N := hb; omega, h.rows.turned t fun b hb e => by have := hG b e; have hb : b < N := hb; omega, Nat.le_trans h.le t.size⟩
theorem keep (h : Setup N w g s M As rss Ar k ps) (t : Keep w w') : Setup N w' g s M As rss Ar k ps := h.turned (Turned.of_keep (F := fun _ => False) t) fun _ e => e.elim
theorem raise (h : Setup N w g s M As rss Ar k ps) {N' : Nat} (h1 : N ≤ N') (h2 : N' ≤ w.heap.size) : Setup N' w g s M As rss Ar k ps :=
  ⟨h.sy.mono fun b hb => Nat.lt_of_lt_of_le hb h1, h.rows.mono fun b hb => Nat.lt_of_lt_of_le hb h1, h2⟩
end Setup
/-- What is known of them. -/
structure Known (g s : Nat) (M : List (List Nat)) (rss : List RowV) (ps : List PairV) : Prop where
  g1 : 1 ≤ g
  g2 : g ≤ 10
  s1 : 1 ≤ s
  s2 : s ≤ 10
  sz : Sz g s M
  sy : rowsXs rss = M
  sn : ∀ r ∈ rss, r.n = s
  len : ps.length ≤ 40
  rows : ∀ p ∈ ps, p.a.n = g ∧ p.b.n = s ∧ p.a.xs.length = g ∧ AllB p.a.xs ∧ p.b.xs = payV g s M p.a.xs
theorem Known.xs {g s : Nat} {M : List (List Nat)} {rss : List RowV} {ps : List PairV} (h : Known g s M rss ps) {p : PairV} (hp : p ∈ ps) : p.xs = rowV g s M p.a.xs := by
  rw [PairV.xs, (h.rows p hp).2.2.2.2]; rfl
theorem Known.sym {g s : Nat} {M : List (List Nat)} {rss : List RowV} {ps : List PairV} (h : Known g s M rss ps) : SymRows g s M (ps.map PairV.xs) := fun r hr => by
  obtain ⟨p, hp, rfl⟩ := List.mem_map.1 hr
  have hk := h.rows p hp
  rw [h.xs hp]
  have ok := rowV_ok h.sz hk.2.2.1 hk.2.2.2.1
  exact ⟨ok.1, ok.2, _, vec_rowV h.sz hk.2.2.1 hk.2.2.2.1⟩
theorem Known.at_ {g s : Nat} {M : List (List Nat)} {rss : List RowV} {ps : List PairV} {j : Nat} {p : PairV} (hj : ps[j]? = some p) : (ps.map PairV.xs).getD j [] = p.xs := by
  rw [List.getD_eq_getElem?_getD, List.getElem?_map, hj]; rfl
theorem known_of {g s G S : Nat} (hg : 1 + G % 10 = g) (hs : 1 + S % 10 = s) {rs1 rs2 : List RowV} {M : List (List Nat)} {rss : List RowV} {ps : List PairV} (h1 : ∀ x ∈ rowsOf rs1, AllB x) (h2 : ∀ x ∈ rowsOf rs2, AllB x) (hM : symM (rowsOf rs1) s g = M) (hsy : rowsXs rss = M) (hsn : ∀ r ∈ rss, r.xs.length = r.n)
    (hps : (ps.map fun p => (p.a.xs, p.b.xs)) = rowsM g s M (rowsOf rs2) 40) (hn : ∀ p ∈ ps, p.a.n = g ∧ p.b.n = s) : Known g s M rss ps := by
  have hsz : Sz g s M := by rw [← hM]; exact symM_sz _ s g h1
  refine ⟨by omega, by omega, by omega, by omega, hsz, hsy, fun r hr => ?_, ?_, fun p hp => ⟨(hn p hp).1, (hn p hp).2, ?_⟩⟩
  · rw [← hsn r hr]
    exact (hsz.2 r.xs (by rw [← hsy]; exact List.mem_map.2 ⟨r, hr, rfl⟩)).1
  · have := congrArg List.length hps
    rw [List.length_map, rowsM, List.length_map, List.length_take] at this
    omega
  · have hm : (p.a.xs, p.b.xs) ∈ rowsM g s M (rowsOf rs2) 40 := by rw [← hps]; exact List.mem_map.2 ⟨p, hp, rfl⟩
    obtain ⟨c, hc, e⟩ := List.mem_map.1 hm
    have hca : AllB c := h2 c (List.mem_of_mem_take hc)
    injection e with e1 e2
    rw [← e1, ← e2]
    exact ⟨fillN_len _ _, fillN_all hca _, rfl⟩
end Go.Proofs.Ytofhdaeeiienfaa
/- The leads of a basis, in the words of its rows. -/
namespace Go.Proofs.Ytofhdaeeiienfaa
open Lin Go.RowKit
set_option linter.unusedVariables false
/-- What is known of the coefficients of a basis' rows. -/
structure FormB (g n : Nat) (C : List (List Nat)) (L : Nat → Nat) : Prop where
  len : C.length = n
  lt : ∀ i, i < n → L i < g
  lead : ∀ i, i < n → vLead g (C.getD i []) = (L i : Int)
  one : ∀ i, i < n → (C.getD i []).getD (L i) 0 = 1
  inc : ∀ i, i + 1 < n → L i < L (i + 1)
  zero : ∀ i k, i < n → k < n → k ≠ i → (C.getD k []).getD (L i) 0 = 0
theorem form_of {g s : Nat} {B : List (List Nat)} (hB : Bas g s B) : ∃ L : Nat → Nat, FormB g B.length (B.map (List.take g)) L ∧ ∀ i, i < B.length → vLead (g + s) (B.getD i []) = (L i : Int) := by
  obtain ⟨l, hr, hlt⟩ := hB.leads
  have hval : ∀ k j, k < B.length → (B.getD k []).getD j 0 = (fn B k j).v := fun k j hk => (vec_v (hB.ok.at_ hk).2 j).symm
  have hm : ∀ k, k < B.length → (B.map (List.take g)).getD k [] = (B.getD k []).take g := fun k hk => map_getD _ hk
  have h1 : ∀ i, i < B.length → ((B.map (List.take g)).getD i []).getD (l i) 0 = 1 := fun i hi => by
    rw [hm i hi, getD_take (hlt i hi), hval i _ hi, hr.one i hi]; rfl
  refine ⟨l, ⟨by rw [List.length_map], hlt, fun i hi => ?_, h1, fun i hi => hr.inc i (i + 1) (by omega) hi, fun i k hi hk hne => ?_⟩, fun i hi => hB.lead_at hr hi⟩
  · refine vLead_at (hlt i hi) (by rw [h1 i hi]; decide) fun j hj => ?_
    rw [hm i hi, getD_take (by have := hlt i hi; omega), hval i j hi, hr.low i j hi hj]; rfl
  · rw [hm k hk, getD_take (hlt i hi), hval k _ hk, hr.zero i k hi hk hne]; rfl
/-- A literal of one row. -/
theorem st_one (w : World) (p : PairV) (B1 B2 : Nat) (h1 : Bytes w B1 p.a.A p.a.n p.a.xs) (h2 : Bytes w B2 p.b.A p.b.n p.b.xs) (hB1 : B1 ≤ w.heap.size) (hB2 : B2 ≤ w.heap.size) (hc1 : p.a.n ≤ p.a.c) (hc2 : p.b.n ≤ p.b.c) (ty : TypeId) : StIn (w.alloc (.cells #[.slice p.a.A p.a.n p.a.c, .slice p.b.A p.b.n p.b.c] ty)) (fun b => b < w.heap.size + 1) (some ⟨w.heap.size, 0, none⟩) 1 [p] := by
  have kl : Keep w (w.alloc (.cells #[.slice p.a.A p.a.n p.a.c, .slice p.b.A p.b.n p.b.c] ty)) := (Keep.refl w).alloc _ _
  refine ⟨rfl, fun q hq => ?_, fun _ => ⟨_, 0, rfl, by omega, fun i q hi => ?_⟩⟩
  · rw [List.mem_singleton] at hq
    subst hq
    exact ⟨(LiesIn.of_bytes (r := q.a) (h1.keep hB1 kl) hc1).mono fun b hb => by show b < _; have hb : b < _ := hb; omega, (LiesIn.of_bytes (r := q.b) (h2.keep hB2 kl) hc2).mono fun b hb => by show b < _; have hb : b < _ := hb; omega⟩
  · match i, hi with
    | 0, hi =>
      simp at hi
      subst hi
      exact ⟨by rw [World.cell?_alloc_at _ _ _ _ (by simp)]; rfl, by rw [World.cell?_alloc_at _ _ _ _ (by simp)]; rfl⟩
    | i + 1, hi => simp at hi
/-- What a row has at the leads: the first y of them. -/
def byL (xs : List Nat) (L : Nat → Nat) (y : Nat) : List Nat := (List.range y).map fun t => xs.getD (L t) 0
theorem byL_succ (xs : List Nat) (L : Nat → Nat) (y : Nat) : byL xs L (y + 1) = byL xs L y ++ [xs.getD (L y) 0] := by simp [byL, List.range_succ]
theorem byL_all {xs : List Nat} (h : AllB xs) (L : Nat → Nat) (y : Nat) : AllB (byL xs L y) := fun x hx => by
  obtain ⟨t, _, rfl⟩ := List.mem_map.1 hx
  exact h.getD _
theorem byL_at (xs : List Nat) (L : Nat → Nat) {y i : Nat} (h : i < y) : (byL xs L y).getD i 0 = xs.getD (L i) 0 := by
  rw [byL, List.getD_eq_getElem?_getD, List.getElem?_map, List.getElem?_range h]; rfl
/-- A row of the span is combined by what it has at the leads. -/
theorem form_back {g s : Nat} {B W : List (List Nat)} {L : Nat → Nat} {xs ys : List Nat} (hB : Bas g s B) (hS : SameSpan B W) (hL : FormB g B.length (B.map (List.take g)) L) (hL2 : ∀ i, i < B.length → vLead (g + s) (B.getD i []) = (L i : Int)) {x : Nat} (hx : x < W.length) (he : W.getD x [] = xs ++ ys) (hl : (xs ++ ys).length = g + s) (hxl : xs.length = g) (ha : AllB (xs ++ ys)) (hax : AllB xs) :
    vComb (g + s) B (byL xs L B.length) B.length = xs ++ ys := by
  refine form_row hB hl ha ?_ (byL_all hax L _) fun i hi => ?_
  · have := hS.2 x hx
    rw [fn, he] at this; exact this
  · rw [byL_at _ _ hi, hL2 i hi, Int.toNat_natCast, List.getD_eq_getElem?_getD, List.getD_eq_getElem?_getD, List.getElem?_append_left (by rw [hxl]; exact hL.lt i hi)]
end Go.Proofs.Ytofhdaeeiienfaa
/- Rows put into a basis, their coefficients into a list: what stands behind each. -/
namespace Go.Proofs.Ytofhdaeeiienfaa
open Lin Go.RowKit
set_option linter.unusedVariables false
theorem none_in {g s : Nat} {V : List Nat} (hl : V.length = g) : inB g s [] (V ++ List.replicate s 0) ↔ vLead g V < 0 := by
  have e : ∀ i, i < g → (leftB (g + s) [] (V ++ List.replicate s 0)).getD i 0 = V.getD i 0 := fun i hi => by
    show (V ++ List.replicate s 0).getD i 0 = _
    rw [List.getD_eq_getElem?_getD, List.getElem?_append_left (by omega), List.getD_eq_getElem?_getD]
  constructor
  · exact fun h => vLead_neg fun i hi => by rw [← e i hi]; exact vLead_none h i hi
  · exact fun h => vLead_neg fun i hi => by rw [e i hi]; exact vLead_none h i hi
/-- Behind j rows. -/
structure SpL (N g s b vb k : Nat) (M W : List (List Nat)) (As : Option Addr) (rss : List RowV) (Ar : Option Addr) (ps : List PairV) (V : List Nat) (w : World) (j : Nat) (F : Nat → Prop) (Al : Option Addr) (cl : Nat) (wr : World) : Prop where
  bas : BasR wr F b g s (basK g s W j)
  fN : ∀ x, F x → N ≤ x
  set : Setup N wr g s M As rss Ar k ps
  own : OwnRows wr N 23 Al j cl ((ps.map PairV.a).take j)
  apart : ∀ x, (Value.slice Al j cl).ownBlock = some x → ¬ F x
  vec : Own wr N 5 (some ⟨vb, 0, none⟩) g g V
  vF : ¬ F vb
  vl : ∀ x, (Value.slice Al j cl).ownBlock = some x → x ≠ vb
  hN : w.heap.size ≤ N
  keep : Keep w wr
namespace SpL
variable {N g s b vb k : Nat} {M W : List (List Nat)} {As : Option Addr} {rss : List RowV} {Ar : Option Addr} {ps : List PairV} {V : List Nat} {w : World} {j : Nat} {F : Nat → Prop} {Al : Option Addr} {cl : Nat} {wr wa w4 wl w7 : World}
theorem own4 (H : SpL N g s b vb k M W As rss Ar ps V w j F Al cl wr) (ka : Keep wr wa) (t4 : Turned F wa w4) : OwnRows w4 N 23 Al j cl ((ps.map PairV.a).take j) := (H.own.keep ka).turned t4 H.apart
theorem step (H : SpL N g s b vb k M W As rss Ar ps V w j F Al cl wr) (ka : Keep wr wa) {p : PairV} (hp : ps[j]? = some p) {F4 : Nat → Prop} (r4 : BasR w4 F4 b g s (basK g s W (j + 1))) (f4 : ∀ x, F4 x → F x ∨ wa.heap.size ≤ x) (t4 : Turned F wa w4) (kl : Keep w4 wl) {A7 : Option Addr} {c7 : Nat}
    (h7 : OwnRows w7 N 23 A7 (j + 1) c7 ((ps.map PairV.a).take j ++ [p.a])) (hgr : wl.grownBy w7 (Value.slice Al j cl).ownBlock) (hb : (Value.slice A7 (j + 1) c7).ownBlock = (Value.slice Al j cl).ownBlock ∨ (Value.slice A7 (j + 1) c7).ownBlock = some wl.heap.size) :
    SpL N g s b vb k M W As rss Ar ps V w (j + 1) F4 A7 c7 w7 := by
  have kT : Turned (fun x => (Value.slice Al j cl).ownBlock = some x) w4 w7 := (Turned.of_keep kl).trans (Turned.of_grown (F := fun x => (Value.slice Al j cl).ownBlock = some x) hgr fun i e => e) fun i e => Or.inl e
  have old : ∀ x, (Value.slice Al j cl).ownBlock = some x → ¬ F4 x := fun x e hx => by
    rcases f4 x hx with h | h
    · exact H.apart x e h
    · have := (H.own.lt x e).2; have := ka.size; omega
  have hvl := (H.vec.1.lt vb rfl).2
  have hs4 := t4.size
  have hsa := ka.size
  have hsl := kl.size
  refine ⟨r4.turned kT fun x hx e => old x e hx, fun x hx => ?_, ((H.set.keep ka).turned t4 H.fN).turned kT fun x e => (H.own.lt x e).1, ?_, fun x e => ?_, ((H.vec.keep ka).turned t4 fun x e hx => ?_).turned kT fun x e he => ?_, fun hx => ?_, fun x e => ?_, H.hN, kT.keep (t4.keep (H.keep.trans ka) fun x hx => Nat.le_trans H.hN (H.fN x hx)) fun x e => Nat.le_trans H.hN (H.own.lt x e).1⟩
  · rcases f4 x hx with h | h
    · exact H.fN x h
    · have := H.set.le; omega
  · rw [List.take_add_one, List.getElem?_map, hp]; exact h7
  · rcases hb with h | h
    · rw [h] at e; exact old x e
    · rw [h] at e
      injection e with e
      intro hx
      have := r4.fine.2.2.2.2.2 x hx
      omega
  · have : vb = x := by injection e
    subst this; exact H.vF hx
  · have : vb = x := by injection e
    subst this; exact H.vl vb he rfl
  · rcases f4 vb hx with h | h
    · exact H.vF h
    · omega
  · rcases hb with h | h
    · rw [h] at e; exact H.vl x e
    · rw [h] at e
      injection e with e
      omega
end SpL
/-- What the matrix of the coefficients is to the basis. -/
structure SpC (g s n : Nat) (B C : List (List Nat)) : Prop where
  sz : Sz n g C
  red : B.map (List.take g) = reduceN C
  len : (reduceN C).length = B.length
  inn : ∀ v, v.length = g → AllB v → (inB g s B (v ++ List.replicate s 0) ↔ (reduceN (C ++ [v])).length = B.length)
theorem rowsXs_cut {g s : Nat} {M : List (List Nat)} {rss : List RowV} {ps : List PairV} (h : Known g s M rss ps) (j : Nat) : rowsXs ((ps.map PairV.a).take j) = ((ps.map PairV.xs).take j).map (List.take g) := by
  rw [rowsXs, ← List.map_take, ← List.map_take, List.map_map, List.map_map]
  refine List.map_congr_left fun p hp => ?_
  show p.a.xs = (p.a.xs ++ p.b.xs).take g
  rw [List.take_left' (h.rows p (List.mem_of_mem_take hp)).2.2.1]
theorem spc_of {g s : Nat} {M W : List (List Nat)} (hW : SymRows g s M W) {j : Nat} (hj : j ≤ W.length) (h0 : 0 < j) : SpC g s j (basK g s W j) ((W.take j).map (List.take g)) := by
  obtain ⟨hB, _, hS, _⟩ := basK_sym hW j hj
  have hrows : ∀ r ∈ W.take j, r.length = g + s ∧ AllB r := fun r hr => by
    have := hW r (List.mem_of_mem_take hr)
    exact ⟨this.1, this.2.1⟩
  have hl : (W.take j).length = j := by rw [List.length_take]; omega
  have hr := cut_reduced hB hrows hS (by omega)
  have hlen : (reduceN ((W.take j).map (List.take g))).length = (basK g s W j).length := by rw [← hr, List.length_map]
  refine ⟨⟨by rw [List.length_map, hl], fun x hx => ?_⟩, hr, hlen, fun v hv ha => ?_⟩
  · obtain ⟨y, hy, rfl⟩ := List.mem_map.1 hx
    have := hrows y hy
    exact ⟨by rw [List.length_take, this.1]; omega, this.2.take g⟩
  · rw [in_rank hB hrows hS (by omega) hv ha, rk, rk, hlen]
end Go.Proofs.Ytofhdaeeiienfaa
