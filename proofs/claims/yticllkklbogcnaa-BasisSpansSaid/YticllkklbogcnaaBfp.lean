/- The leads of a basis, in the words of its rows. -/
import Derived.Test.YticllkklbogcnaaBset
namespace Go.Proofs.Yticllkklbogcnaa
open Lin Go.RowKit
set_option linter.unusedVariables false
/-- What is known of the coefficients of a basis' rows. -/
structure FormB (g n : Nat) (C : List (List Nat)) (L : Nat → Nat) : Prop where
  len : C.length = n
  lt : ∀ i, i < n → L i < g
  lead : ∀ i, i < n → vLead g (C.getD i []) = (L i : Int)
  one : ∀ i, i < n → (C.getD i []).getD (L i) 0 = 1
  inc : ∀ i, i + 1 < n → L i < L (i + 1)
  zero : ∀ i k, i < n → k < n → k ≠ i → (C.getD k []).getD (L i) 0 = 0
theorem form_of {g s : Nat} {B : List (List Nat)} (hB : Bas g s B) : ∃ L : Nat → Nat, FormB g B.length (B.map (List.take g)) L ∧ ∀ i, i < B.length → vLead (g + s) (B.getD i []) = (L i : Int) := by
  obtain ⟨l, hr, hlt⟩ := hB.leads
  have hval : ∀ k j, k < B.length → (B.getD k []).getD j 0 = (fn B k j).v := fun k j hk => (vec_v (hB.ok.at_ hk).2 j).symm
  have hm : ∀ k, k < B.length → (B.map (List.take g)).getD k [] = (B.getD k []).take g := fun k hk => map_getD _ hk
  have h1 : ∀ i, i < B.length → ((B.map (List.take g)).getD i []).getD (l i) 0 = 1 := fun i hi => by
    rw [hm i hi, getD_take (hlt i hi), hval i _ hi, hr.one i hi]; rfl
  refine ⟨l, ⟨by rw [List.length_map], hlt, fun i hi => ?_, h1, fun i hi => hr.inc i (i + 1) (by omega) hi, fun i k hi hk hne => ?_⟩, fun i hi => hB.lead_at hr hi⟩
  · refine vLead_at (hlt i hi) (by rw [h1 i hi]; decide) fun j hj => ?_
    rw [hm i hi, getD_take (by have := hlt i hi; omega), hval i j hi, hr.low i j hi hj]; rfl
  · rw [hm k hk, getD_take (hlt i hi), hval k _ hk, hr.zero i k hi hk hne]; rfl
/-- A literal of one row. -/
theorem st_one (w : World) (p : PairV) (B1 B2 : Nat) (h1 : Bytes w B1 p.a.A p.a.n p.a.xs) (h2 : Bytes w B2 p.b.A p.b.n p.b.xs) (hB1 : B1 ≤ w.heap.size) (hB2 : B2 ≤ w.heap.size) (hc1 : p.a.n ≤ p.a.c) (hc2 : p.b.n ≤ p.b.c) (ty : TypeId) : StIn (w.alloc (.cells #[.slice p.a.A p.a.n p.a.c, .slice p.b.A p.b.n p.b.c] ty)) (fun b => b < w.heap.size + 1) (some ⟨w.heap.size, 0, none⟩) 1 [p] := by
  have kl : Keep w (w.alloc (.cells #[.slice p.a.A p.a.n p.a.c, .slice p.b.A p.b.n p.b.c] ty)) := (Keep.refl w).alloc _ _
  refine ⟨rfl, fun q hq => ?_, fun _ => ⟨_, 0, rfl, by omega, fun i q hi => ?_⟩⟩
  · rw [List.mem_singleton] at hq
    subst hq
    exact ⟨(LiesIn.of_bytes (r := q.a) (h1.keep hB1 kl) hc1).mono fun b hb => by show b < _; have hb : b < _ := hb; omega, (LiesIn.of_bytes (r := q.b) (h2.keep hB2 kl) hc2).mono fun b hb => by show b < _; have hb : b < _ := hb; omega⟩
  · match i, hi with
    | 0, hi =>
      simp at hi
      subst hi
      exact ⟨by rw [World.cell?_alloc_at _ _ _ _ (by simp)]; rfl, by rw [World.cell?_alloc_at _ _ _ _ (by simp)]; rfl⟩
    | i + 1, hi => simp at hi
/-- What a row has at the leads: the first y of them. -/
def byL (xs : List Nat) (L : Nat → Nat) (y : Nat) : List Nat := (List.range y).map fun t => xs.getD (L t) 0
theorem byL_succ (xs : List Nat) (L : Nat → Nat) (y : Nat) : byL xs L (y + 1) = byL xs L y ++ [xs.getD (L y) 0] := by simp [byL, List.range_succ]
theorem byL_all {xs : List Nat} (h : AllB xs) (L : Nat → Nat) (y : Nat) : AllB (byL xs L y) := fun x hx => by
  obtain ⟨t, _, rfl⟩ := List.mem_map.1 hx
  exact h.getD _
theorem byL_at (xs : List Nat) (L : Nat → Nat) {y i : Nat} (h : i < y) : (byL xs L y).getD i 0 = xs.getD (L i) 0 := by
  rw [byL, List.getD_eq_getElem?_getD, List.getElem?_map, List.getElem?_range h]; rfl
/-- A row of the span is combined by what it has at the leads. -/
theorem form_back {g s : Nat} {B W : List (List Nat)} {L : Nat → Nat} {xs ys : List Nat} (hB : Bas g s B) (hS : SameSpan B W) (hL : FormB g B.length (B.map (List.take g)) L) (hL2 : ∀ i, i < B.length → vLead (g + s) (B.getD i []) = (L i : Int)) {x : Nat} (hx : x < W.length) (he : W.getD x [] = xs ++ ys) (hl : (xs ++ ys).length = g + s) (hxl : xs.length = g) (ha : AllB (xs ++ ys)) (hax : AllB xs) :
    vComb (g + s) B (byL xs L B.length) B.length = xs ++ ys := by
  refine form_row hB hl ha ?_ (byL_all hax L _) fun i hi => ?_
  · have := hS.2 x hx
    rw [fn, he] at this; exact this
  · rw [byL_at _ _ hi, hL2 i hi, Int.toNat_natCast, List.getD_eq_getElem?_getD, List.getD_eq_getElem?_getD, List.getElem?_append_left (by rw [hxl]; exact hL.lt i hi)]
end Go.Proofs.Yticllkklbogcnaa
