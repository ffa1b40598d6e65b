/- The document's own basis: places, each with its row or none (plain). -/
import Derived.Test.YtcjjhblgejkkeaaGreatSt
import Derived.Test.YtcjjhblgejkkeaaGreatBas
import Derived.Test.YtcjjhblgejkkeaaGreatBref1
import Derived.Test.YtcjjhblgejkkeaaGreatBd
import Derived.Test.YtcjjhblgejkkeaaGreatBc
import Derived.Test.YtcjjhblgejkkeaaGreatRinv
import Derived.Deep.DeepCutAuto
import Derived.Deep.CutBlock
import Derived.Test.YtcjjhblgejkkeaaGreatStApp
import Derived.Test.YtcjjhblgejkkeaaGreatMgen
namespace Go.Proofs.YtcjjhblgejkkeaaGreat
open Lin
set_option linter.unusedVariables false
/-- The rows that are there. -/
def selP : List Bool → List PairV → List PairV
  | [], _ => []
  | _, [] => []
  | b :: bs, p :: ps => if b then p :: selP bs ps else selP bs ps
theorem selP_append : ∀ (a : List Bool) (c : List PairV) (b : List Bool) (d : List PairV), a.length = c.length → selP (a ++ b) (c ++ d) = selP a c ++ selP b d
  | [], [], b, d, _ => rfl
  | [], _ :: _, b, d, h => by simp at h
  | _ :: _, [], b, d, h => by simp at h
  | x :: a, p :: c, b, d, h => by
    have ih := selP_append a c b d (by simpa using h)
    show (if x then p :: selP (a ++ b) (c ++ d) else selP (a ++ b) (c ++ d)) = (if x then p :: selP a c else selP a c) ++ selP b d
    rw [ih]
    cases x <;> rfl
theorem selP_succ {iv : List Bool} {R : List PairV} {i : Nat} {x : Bool} {p : PairV} (hx : iv[i]? = some x) (hp : R[i]? = some p) : selP (iv.take (i + 1)) (R.take (i + 1)) = selP (iv.take i) (R.take i) ++ (if x then [p] else []) := by
  have h1 := (List.getElem?_eq_some_iff.1 hx).1
  have h2 := (List.getElem?_eq_some_iff.1 hp).1
  rw [List.take_add_one, List.take_add_one, hx, hp, selP_append _ _ _ _ (by rw [List.length_take, List.length_take]; omega)]
  congr 1
theorem selP_split {iv : List Bool} {R : List PairV} (h : iv.length = R.length) (m : Nat) : selP iv R = selP (iv.take m) (R.take m) ++ selP (iv.drop m) (R.drop m) := by
  rw [← selP_append _ _ _ _ (by rw [List.length_take, List.length_take, h]), List.take_append_drop, List.take_append_drop]
theorem selP_mem : ∀ (iv : List Bool) (R : List PairV) (k : Nat) (p : PairV), (selP iv R)[k]? = some p → ∃ i : Nat, iv[i]? = some true ∧ R[i]? = some p
  | [], _, k, p, h => by simp [selP] at h
  | _ :: _, [], k, p, h => by simp [selP] at h
  | true :: iv, q :: R, 0, p, h => ⟨0, rfl, h⟩
  | true :: iv, q :: R, k + 1, p, h => by
    obtain ⟨i, h1, h2⟩ := selP_mem iv R k p h
    exact ⟨i + 1, h1, h2⟩
  | false :: iv, q :: R, k, p, h => by
    obtain ⟨i, h1, h2⟩ := selP_mem iv R k p h
    exact ⟨i + 1, h1, h2⟩
theorem selP_low {iv : List Bool} {R : List PairV} {m k : Nat} {p : PairV} (hk : k < (selP (iv.take m) (R.take m)).length) (hl : iv.length = R.length) (h : (selP iv R)[k]? = some p) : ∃ i : Nat, i < m ∧ iv[i]? = some true ∧ R[i]? = some p := by
  rw [selP_split hl m, List.getElem?_append_left hk] at h
  obtain ⟨i, h1, h2⟩ := selP_mem _ _ _ _ h
  rw [List.getElem?_take] at h1 h2
  split at h1
  · next hi => rw [if_pos hi] at h2; exact ⟨i, hi, h1, h2⟩
  · cases h1
theorem selP_high {iv : List Bool} {R : List PairV} {m k : Nat} {p : PairV} (hk : (selP (iv.take m) (R.take m)).length ≤ k) (hl : iv.length = R.length) (h : (selP iv R)[k]? = some p) : ∃ i : Nat, m ≤ i ∧ iv[i]? = some true ∧ R[i]? = some p := by
  rw [selP_split hl m, List.getElem?_append_right hk] at h
  obtain ⟨i, h1, h2⟩ := selP_mem _ _ _ _ h
  rw [List.getElem?_drop] at h1 h2
  exact ⟨m + i, by omega, h1, h2⟩
theorem selP_at {iv : List Bool} {R : List PairV} {i : Nat} {p : PairV} (hl : iv.length = R.length) (hx : iv[i]? = some true) (hp : R[i]? = some p) : (selP iv R)[(selP (iv.take i) (R.take i)).length]? = some p := by
  rw [selP_split hl (i + 1), selP_succ hx hp, if_pos rfl, List.append_assoc, List.getElem?_append_right (Nat.le_refl _), Nat.sub_self]; rfl
theorem selP_map {f : List Nat → List Nat} : ∀ (iv : List Bool) (R R' : List PairV), R'.length = R.length → (∀ (i : Nat) (p p' : PairV), iv[i]? = some true → R[i]? = some p → R'[i]? = some p' → p'.xs = f p.xs) → (selP iv R').map PairV.xs = ((selP iv R).map PairV.xs).map f
  | [], _, _, _, _ => by simp [selP]
  | _ :: _, [], R', h, _ => by
    obtain rfl : R' = [] := List.eq_nil_of_length_eq_zero (by simpa using h)
    simp [selP]
  | _ :: _, _ :: _, [], h, _ => by simp at h
  | x :: iv, p :: R, p' :: R', h, hf => by
    have ih := selP_map (f := f) iv R R' (by simpa using h) fun i q q' h1 h2 h3 => hf (i + 1) q q' h1 h2 h3
    cases x with
    | true =>
      show (p' :: selP iv R').map PairV.xs = ((p :: selP iv R).map PairV.xs).map f
      rw [List.map_cons, List.map_cons, List.map_cons, ih, hf 0 p p' rfl rfl rfl]
    | false => exact ih
theorem selP_set {iv : List Bool} {R : List PairV} {L : Nat} {r : PairV} (hl : iv.length = R.length) (hL : iv[L]? = some false) : selP (iv.set L true) (R.set L r) = (selP iv R).take (selP (iv.take L) (R.take L)).length ++ [r] ++ (selP iv R).drop (selP (iv.take L) (R.take L)).length := by
  have h1 := (List.getElem?_eq_some_iff.1 hL).1
  have hp := List.getElem?_eq_getElem (l := R) (i := L) (by omega)
  have e1 := selP_split hl (L + 1)
  rw [selP_succ hL hp, if_neg (by decide), List.append_nil] at e1
  have hl2 : (iv.set L true).length = (R.set L r).length := by rw [List.length_set, List.length_set, hl]
  have e2 := selP_split hl2 (L + 1)
  rw [selP_succ (i := L) (x := true) (p := r) (by rw [List.getElem?_set_self h1]) (by rw [List.getElem?_set_self (by omega)]), if_pos rfl] at e2
  rw [e2, e1, List.take_left', List.drop_left', List.take_set_of_le (Nat.le_refl L), List.take_set_of_le (Nat.le_refl L), List.drop_set_of_lt (Nat.lt_succ_self L), List.drop_set_of_lt (Nat.lt_succ_self L)]
  · rfl
  · rfl
/-- Places, and the basis that they are. -/
structure Slots (g s : Nat) (iv : List Bool) (R : List PairV) (B : List (List Nat)) : Prop where
  li : iv.length = g
  lr : R.length = g
  sel : (selP iv R).map PairV.xs = B
  lead : ∀ (i : Nat) (p : PairV), iv[i]? = some true → R[i]? = some p → vLead (g + s) p.xs = (i : Int)
  size : ∀ (i : Nat) (p : PairV), iv[i]? = some true → R[i]? = some p → p.a.xs.length = g ∧ p.b.xs.length = s
/-- How many rows stand ahead of a place. -/
def cnt (iv : List Bool) (R : List PairV) (i : Nat) : Nat := (selP (iv.take i) (R.take i)).length
section
variable {g s : Nat} {iv : List Bool} {R : List PairV} {B : List (List Nat)}
theorem Slots.eq (h : Slots g s iv R B) : iv.length = R.length := h.li.trans h.lr.symm
theorem Slots.none (g s : Nat) (p : PairV) : Slots g s (List.replicate g false) (List.replicate g p) [] := by
  have hs : ∀ n, selP (List.replicate n false) (List.replicate n p) = [] := fun n => by
    induction n with
    | zero => rfl
    | succ n ih => rw [List.replicate_succ, List.replicate_succ]; exact ih
  refine ⟨List.length_replicate, List.length_replicate, by rw [hs]; rfl, fun i q h1 _ => ?_, fun i q h1 _ => ?_⟩
  · rw [List.getElem?_replicate] at h1; split at h1 <;> cases h1
  · rw [List.getElem?_replicate] at h1; split at h1 <;> cases h1
theorem cnt_zero : cnt iv R 0 = 0 := rfl
theorem Slots.cnt_all (h : Slots g s iv R B) : cnt iv R g = B.length := by
  rw [cnt, List.take_of_length_le (by rw [h.li]; exact Nat.le_refl _), List.take_of_length_le (by rw [h.lr]; exact Nat.le_refl _), ← h.sel, List.length_map]
theorem cnt_yes {i : Nat} {p : PairV} (hx : iv[i]? = some true) (hp : R[i]? = some p) : cnt iv R (i + 1) = cnt iv R i + 1 := by rw [cnt, selP_succ hx hp, if_pos rfl, List.length_append]; rfl
theorem cnt_no {i : Nat} {p : PairV} (hx : iv[i]? = some false) (hp : R[i]? = some p) : cnt iv R (i + 1) = cnt iv R i := by rw [cnt, selP_succ hx hp, if_neg (by decide), List.append_nil]; rfl
theorem Slots.row (h : Slots g s iv R B) {i : Nat} {p : PairV} (hx : iv[i]? = some true) (hp : R[i]? = some p) : B.getD (cnt iv R i) [] = p.xs ∧ cnt iv R i < B.length := by
  have e := selP_at h.eq hx hp
  rw [← h.sel, List.getD_eq_getElem?_getD, List.getElem?_map]
  rw [cnt, e]
  refine ⟨rfl, ?_⟩
  rw [List.length_map]; exact (List.getElem?_eq_some_iff.1 e).1
/-- One step of the reduction. -/
theorem Slots.clear (h : Slots g s iv R B) {i : Nat} {p : PairV} (row : List Nat) (hx : iv[i]? = some true) (hp : R[i]? = some p) :
    clearTo (g + s) B row (cnt iv R (i + 1)) = vAddS (g + s) (clearTo (g + s) B row (cnt iv R i)) p.xs ((clearTo (g + s) B row (cnt iv R i)).getD i 0) := by
  rw [cnt_yes hx hp]
  show vAddS (g + s) _ (B.getD (cnt iv R i) []) (_ : Nat) = _
  rw [(h.row hx hp).1, h.lead i p hx hp, Int.toNat_natCast]
theorem lead_vals {n i : Nat} {xs : List Nat} (h : vLead n xs = (i : Int)) : i < n ∧ xs.getD i 0 ≠ 0 ∧ ∀ j, j < i → xs.getD j 0 = 0 := by
  obtain ⟨L, h1, h2⟩ := vLead_some (n := n) (xs := xs) (by rw [h]; omega)
  rw [h] at h2
  obtain rfl : i = L := by omega
  exact (vLeadTo_some xs n i).1 h1
/-- A new row is put in at its place. -/
theorem Slots.put (h : Slots g s iv R B) (hB : Bas g s B) {row : List Nat} (hl : row.length = g + s) (ha : AllB row) {L : Nat} (hL : vLead g (leftB (g + s) B row) = (L : Int)) {r : PairV} (hr : r.xs = vScale (g + s) (leftB (g + s) B row) (invN ((leftB (g + s) B row).getD L 0))) (hra : r.a.xs.length = g) (hrb : r.b.xs.length = s)
    {R' : List PairV} (hR : R'.length = g) (hf : ∀ (i : Nat) (p p' : PairV), iv[i]? = some true → R[i]? = some p → R'[i]? = some p' → p'.xs = vAddS (g + s) p.xs r.xs (p.xs.getD L 0) ∧ p'.a.xs.length = g ∧ p'.b.xs.length = s) :
    L < g ∧ iv[L]? = some false ∧ Slots g s (iv.set L true) (R'.set L r) (insB g s B row) := by
  obtain ⟨hLg, hL0, hLz⟩ := lead_vals hL
  obtain ⟨l, hrd, hlt⟩ := hB.leads
  have hLf : iv[L]? = some false := by
    have h1 := List.getElem?_eq_getElem (l := iv) (i := L) (by rw [h.li]; exact hLg)
    cases hx : iv[L]'(by rw [h.li]; exact hLg) with
    | false => rw [h1, hx]
    | true =>
      rw [hx] at h1
      have hp := List.getElem?_eq_getElem (l := R) (i := L) (by rw [h.lr]; exact hLg)
      obtain ⟨e1, e2⟩ := h.row h1 hp
      have e3 := hB.lead_at hrd e2
      rw [e1, h.lead L _ h1 hp] at e3
      have e4 := left_nought hB.ok hrd hl ha e2
      rw [← show (L : Nat) = l (cnt iv R L) by omega] at e4
      exact absurd ((vec_zero_iff (left_all hB.ok ha) L).1 e4) hL0
  refine ⟨hLg, hLf, by rw [List.length_set, h.li], by rw [List.length_set, hR], ?_, fun i p hx hp => ?_, fun i p hx hp => ?_⟩
  · have hlo : ∀ k, k < cnt iv R L → ∃ j, j < L ∧ (B.getD k []).getD j 0 ≠ 0 := fun k hk => by
      have hkl : k < (selP iv R).length := by
        rw [selP_split h.eq L, List.length_append]
        have : k < (selP (iv.take L) (R.take L)).length := hk
        omega
      obtain ⟨i, hi, h1, h2⟩ := selP_low hk h.eq (List.getElem?_eq_getElem hkl)
      refine ⟨i, hi, ?_⟩
      have e0 : B.getD k [] = ((selP iv R)[k]).xs := by rw [← h.sel, List.getD_eq_getElem?_getD, List.getElem?_map, List.getElem?_eq_getElem hkl]; rfl
      rw [e0]
      exact (lead_vals (h.lead i _ h1 h2)).2.1
    have hhi : cnt iv R L < B.length → ∀ j, j < L → (B.getD (cnt iv R L) []).getD j 0 = 0 := fun hq j hj => by
      have hkl : cnt iv R L < (selP iv R).length := by rw [← h.sel, List.length_map] at hq; exact hq
      obtain ⟨i, hi, h1, h2⟩ := selP_high (m := L) (Nat.le_refl _) h.eq (List.getElem?_eq_getElem hkl)
      have e0 : B.getD (cnt iv R L) [] = ((selP iv R)[cnt iv R L]).xs := by rw [← h.sel, List.getD_eq_getElem?_getD, List.getElem?_map, List.getElem?_eq_getElem hkl]; rfl
      rw [e0]
      exact (lead_vals (h.lead i _ h1 h2)).2.2 j (by omega)
    have hq : cnt iv R L ≤ B.length := by
      rw [← h.sel, List.length_map, selP_split h.eq L, List.length_append]
      exact Nat.le_add_right _ _
    rw [insB_at hB hl ha hL hq hlo hhi, ← hr]
    have hc : (selP iv R').map PairV.xs = clearedL (g + s) B r.xs L := by
      rw [selP_map (f := fun m => vAddS (g + s) m r.xs (m.getD L 0)) iv R R' (by rw [hR, h.lr]) fun i p p' h1 h2 h3 => (hf i p p' h1 h2 h3).1, h.sel]; rfl
    have hcnt : (selP (iv.take L) (R'.take L)).length = cnt iv R L := by
      have e := selP_map (f := fun _ => ([] : List Nat)) (iv.take L) (R.take L) (R'.take L) (by rw [List.length_take, List.length_take, hR, h.lr])
      have e2 : ∀ (a : List Bool) (c d : List PairV), c.length = d.length → (selP a c).length = (selP a d).length := fun a => by
        induction a with
        | nil => intro c d _; rfl
        | cons x a ih =>
          intro c d hcd
          match c, d, hcd with
          | [], [], _ => rfl
          | p :: c, q :: d, hcd =>
            have := ih c d (by simpa using hcd)
            cases x <;> simp [selP, this]
      exact e2 _ _ _ (by rw [List.length_take, List.length_take, hR, h.lr])
    rw [selP_set (by rw [h.li, hR]) hLf, hcnt, List.map_append, List.map_append, List.map_take, List.map_drop, hc]; rfl
  · by_cases e : i = L
    · subst e
      rw [List.getElem?_set_self (by rw [hR]; exact hLg)] at hp
      injection hp with hp
      subst hp
      rw [hr]
      refine vLead_at (by omega) ?_ fun j hj => ?_
      · rw [vScale, tab_getD, if_pos (by omega)]
        have e1 := mul_inv _ ((left_all hB.ok ha).getD i) (show 1 ≤ (leftB (g + s) B row).getD i 0 by omega)
        rw [e1]; decide
      · rw [vScale, tab_getD, if_pos (by omega), hLz j hj]
        exact mul_zero_left _
    · rw [List.getElem?_set_ne (fun e2 => e e2.symm)] at hx hp
      have hig : i < g := by rw [← h.li]; exact (List.getElem?_eq_some_iff.1 hx).1
      have hpR := List.getElem?_eq_getElem (l := R) (i := i) (by rw [h.lr]; exact hig)
      have hle := lead_vals (h.lead i _ hx hpR)
      have hxs := (hf i _ _ hx hpR hp).1
      have hu : ∀ j, j < L → r.xs.getD j 0 = 0 := fun j hj => by
        rw [hr, vScale, tab_getD, if_pos (by omega), hLz j hj]
        exact mul_zero_left _
      rw [hxs]
      rcases Nat.lt_or_ge i L with e2 | e2
      · refine vLead_at hle.1 ?_ fun j hj => ?_
        · rw [vAddS, tab_getD, if_pos hle.1, hu i e2, mul_zero_left, Nat.xor_zero]; exact hle.2.1
        · rw [vAddS, tab_getD, if_pos (by omega), hu j (by omega), mul_zero_left, Nat.xor_zero]; exact hle.2.2 j hj
      · have hc : (R[i]'(by rw [h.lr]; exact hig)).xs.getD L 0 = 0 := hle.2.2 L (by omega)
        have hra2 : AllB r.xs := by
          rw [hr]
          exact vScale_all (left_all hB.ok ha)
        have hsz := h.size i _ hx hpR
        rw [hc, vAddS_none _ (by rw [PairV.xs, List.length_append, hsz.1, hsz.2]) hra2]
        exact h.lead i _ hx hpR
  · by_cases e : i = L
    · subst e
      rw [List.getElem?_set_self (by rw [hR]; exact hLg)] at hp
      injection hp with hp
      subst hp
      exact ⟨hra, hrb⟩
    · rw [List.getElem?_set_ne (fun e2 => e e2.symm)] at hx hp
      have hig : i < g := by rw [← h.li]; exact (List.getElem?_eq_some_iff.1 hx).1
      have hpR := List.getElem?_eq_getElem (l := R) (i := i) (by rw [h.lr]; exact hig)
      exact (hf i _ _ hx hpR hp).2
end
end Go.Proofs.YtcjjhblgejkkeaaGreat
/- The document's own basis in memory: New, sums of rows, leads. -/
namespace Go.Proofs.YtcjjhblgejkkeaaGreat
open Go.RowKit Lin
set_option linter.unusedVariables false
set_option linter.unusedSimpArgs false
/-- The document's own basis at block b: its places, and the rows there. -/
structure RefR (w : World) (F : Nat → Prop) (b g s bi br : Nat) (iv : List Bool) (R : List PairV) : Prop where
  lt : ∀ k, F k → k < w.heap.size
  fb : F b
  fi : F bi
  fr : F br
  ne : b ≠ bi ∧ b ≠ br ∧ bi ≠ br
  block : w.heap[b]? = some (.cells #[.int .i64 (g : Int), .int .i64 (s : Int), .slice (some ⟨bi, 0, none⟩) g g, .slice (some ⟨br, 0, none⟩) g g] 149 (0, 0))
  bools : w.heap[bi]? = some (.cells (iv.map Value.bool).toArray 4 (0, 0))
  st : StB w br R
  li : iv.length = g
  lr : R.length = g
  rows : ∀ (i : Nat) (p : PairV), iv[i]? = some true → R[i]? = some p → (LiesIn w (fun k => F k ∧ k ≠ b ∧ k ≠ bi ∧ k ≠ br) p.a ∧ LiesIn w (fun k => F k ∧ k ≠ b ∧ k ≠ bi ∧ k ≠ br) p.b) ∧ p.a.n = g ∧ p.b.n = s
section
variable {w w' : World} {F G : Nat → Prop} {b g s bi br : Nat} {iv : List Bool} {R : List PairV}
theorem RefR.turned (h : RefR w F b g s bi br iv R) (k : Turned G w w') (hd : ∀ b, F b → ¬ G b) : RefR w' F b g s bi br iv R :=
  ⟨fun x hx => Nat.lt_of_lt_of_le (h.lt x hx) k.size, h.fb, h.fi, h.fr, h.ne, (k.block b (h.lt b h.fb) (hd b h.fb)).trans h.block, (k.block bi (h.lt bi h.fi) (hd bi h.fi)).trans h.bools, h.st.turned k (hd br h.fr), h.li, h.lr, fun i p hx hp => by
    obtain ⟨⟨a, c⟩, z⟩ := h.rows i p hx hp
    exact ⟨⟨a.turned k fun x hx => hd x hx.1, c.turned k fun x hx => hd x hx.1⟩, z⟩⟩
theorem RefR.keep (h : RefR w F b g s bi br iv R) (k : Keep w w') : RefR w' F b g s bi br iv R := h.turned (Turned.of_keep (F := fun _ => False) k) fun _ _ e => e
theorem RefR.c0 (h : RefR w F b g s bi br iv R) : w.cell? ⟨b, 0, none⟩ = some (.int .i64 (g : Int)) := cell_of_row _ _ _ _ _ _ h.block
theorem RefR.c1 (h : RefR w F b g s bi br iv R) : w.cell? ⟨b, 1, none⟩ = some (.int .i64 (s : Int)) := cell_of_row _ _ _ _ _ _ h.block
theorem RefR.c2 (h : RefR w F b g s bi br iv R) : w.cell? ⟨b, 2, none⟩ = some (.slice (some ⟨bi, 0, none⟩) g g) := cell_of_row _ _ _ _ _ _ h.block
theorem RefR.c3 (h : RefR w F b g s bi br iv R) : w.cell? ⟨b, 3, none⟩ = some (.slice (some ⟨br, 0, none⟩) g g) := cell_of_row _ _ _ _ _ _ h.block
theorem RefR.cb (h : RefR w F b g s bi br iv R) {i : Nat} {x : Bool} (hx : iv[i]? = some x) : w.cell? ⟨bi, i, none⟩ = some (.bool x) := by
  rw [World.cell?, h.bools]
  simp [List.getElem?_map, hx]
end
theorem infoBool : (Tryz.prog.info? 4).map (fun i => (i.zero, i.size, i.bytes)) = some (some (.bool false), 1, 1) := by kernel_rfl
theorem run_make_bools (n : Nat) (hn : n ≤ 1000000) (w : World) : (Instr.makeSlice 147 (.int .i64 (n : Int)) (.int .i64 (n : Int))).run Tryz.prog w = .ok (.slice (some ⟨w.heap.size, 0, none⟩) n n) (w.alloc (.cells (Array.replicate n (Value.bool false)) 4)) := by
  obtain ⟨i0, hi0, hz0, hz1, hz2⟩ := info_parts infoBool
  have h := run_make (P := Tryz.prog) w 147 4 i0 (.bool false) Tryz.underlying147 hi0 hz0 .i64 .i64 n n (by omega) (by omega) (by rw [hz2]; omega) (by omega)
  rw [hz1, Int.toNat_natCast, Nat.mul_one] at h
  have e : madeCells (Value.cells (.bool false)) n = Array.replicate n (Value.bool false) := by
    refine Array.ext' ?_
    rw [Array.toList_replicate]
    exact toList_madeCells_one _ _
  rw [h, e]
theorem refR_new {w w' : World} {b bi br g s : Nat} (hk : Keep w w') (h1 : w.heap.size ≤ b) (h2 : w.heap.size ≤ bi) (h3 : w.heap.size ≤ br) (hne : b ≠ bi ∧ b ≠ br ∧ bi ≠ br)
    (hb : w'.heap[b]? = some (.cells #[.int .i64 (g : Int), .int .i64 (s : Int), .slice (some ⟨bi, 0, none⟩) g g, .slice (some ⟨br, 0, none⟩) g g] 149 (0, 0)))
    (hbi : w'.heap[bi]? = some (.cells (Array.replicate g (Value.bool false)) 4 (0, 0))) (hbr : StB w' br (List.replicate g PairV.zero)) : ∃ F, RefR w' F b g s bi br (List.replicate g false) (List.replicate g PairV.zero) ∧ ∀ k, F k → w.heap.size ≤ k := by
  refine ⟨fun k => k = b ∨ k = bi ∨ k = br, ⟨fun k hk => ?_, Or.inl rfl, Or.inr (Or.inl rfl), Or.inr (Or.inr rfl), hne, hb, (by rw [show ((List.replicate g false).map Value.bool).toArray = Array.replicate g (Value.bool false) by simp]; exact hbi), hbr, List.length_replicate, List.length_replicate, fun i p hx _ => ?_⟩, fun k hk => ?_⟩
  · rcases hk with e | e | e <;> subst e
    · exact (Array.getElem?_eq_some_iff.1 hb).1
    · exact (Array.getElem?_eq_some_iff.1 hbi).1
    · exact hbr.lt
  · rw [List.getElem?_replicate] at hx; split at hx <;> cases hx
  · rcases hk with e | e | e <;> subst e <;> assumption
set_option maxRecDepth 100000 in
theorem rpnew_out (g s : Int) (h : g < 1 ∨ 255 < g ∨ s < 1 ∨ 65535 < s) (w : World) :
    Calls Tryz.prog 46 #[.int .i64 g, .int .i64 s] w fun e w' => e = .returned (.tuple #[.pointer none, .int .i64 1]) ∧ Keep w w' := by
  have hb : (decide (g < 1) || decide (255 < g) || decide (s < 1) || decide (65535 < s)) = true := by
    simp only [Bool.or_eq_true, decide_eq_true_eq]
    omega
  clear h
  cases e1 : decide (g < 1) <;> cases e2 : decide (255 < g) <;> cases e3 : decide (s < 1) <;> cases e4 : decide (65535 < s) <;> rw [e1, e2, e3, e4] at hb
  case false.false.false.false => exact absurd hb (by decide)
  all_goals
    clear hb
    go_enter Tryz.func46, Tryz.ntmps46
    go_wp2_with fail
    go_ret2
    exact ⟨rfl, Keep.refl w⟩
set_option maxRecDepth 100000 in
set_option maxHeartbeats 1000000 in
theorem rpnew_in (g s : Nat) (h1 : 1 ≤ g) (h2 : g ≤ 255) (h3 : 1 ≤ s) (h4 : s ≤ 65535) (w : World) :
    Calls Tryz.prog 46 #[.int .i64 (g : Int), .int .i64 (s : Int)] w fun e w' => ∃ b bi br F, e = .returned (.tuple #[.pointer (some ⟨b, 0, none⟩), .int .i64 0]) ∧ RefR w' F b g s bi br (List.replicate g false) (List.replicate g PairV.zero) ∧ (∀ k, F k → w.heap.size ≤ k) ∧ Keep w w' := by
  have b1 : decide ((g : Int) < 1) = false := decide_eq_false (by omega)
  have b2 : decide ((255 : Int) < (g : Int)) = false := decide_eq_false (by omega)
  have b3 : decide ((s : Int) < 1) = false := decide_eq_false (by omega)
  have b4 : decide ((65535 : Int) < (s : Int)) = false := decide_eq_false (by omega)
  have mkb := fun w => run_make_bools g (by omega) w
  have mks := fun w => run_make_st g g (Nat.le_refl _) (by omega) w
  clear h1 h2 h3 h4
  go_enter Tryz.func46, Tryz.ntmps46
  go_wp2_with fail
  refine wp_region_noPanic ?_
  refine wp_region_held_drew (S := fun wz => True) (by kernel_rfl) trivial (fun hHeld => ?_)
  refine wpAnyH_take (i := 0) (v := ?_) rfl (by kernel_rfl) (by kernel_rfl) (by kernel_rfl) (fun _ _ _ h => h) (Or.inl ⟨by rfl, ?_⟩) hHeld ?_
  rotate_left
  · intro wq hSw
    go_simp
    all_goals with_reducible rfl
  try simp only [Act.put, List.getElem_toArray, List.getElem_cons_succ, List.getElem_cons_zero, List.setIfInBounds_toArray, List.set_cons_zero, List.set_cons_succ]
  refine wpAnyH_take (i := 1) (v := ?_) rfl (by kernel_rfl) (by kernel_rfl) (by kernel_rfl) (fun _ _ _ h => h) (Or.inl ⟨by rfl, ?_⟩) hHeld ?_
  rotate_left
  · intro wq hSw
    go_simp
    all_goals with_reducible rfl
  try simp only [Act.put, List.getElem_toArray, List.getElem_cons_succ, List.getElem_cons_zero, List.setIfInBounds_toArray, List.set_cons_zero, List.set_cons_succ]
  refine wpAnyH_take (i := 2) (v := ?_) rfl (by kernel_rfl) (by kernel_rfl) (by kernel_rfl) (fun _ _ _ h => h) (Or.inl ⟨by rfl, ?_⟩) hHeld ?_
  rotate_left
  · intro wq hSw
    go_simp
    all_goals with_reducible rfl
  try simp only [Act.put, List.getElem_toArray, List.getElem_cons_succ, List.getElem_cons_zero, List.setIfInBounds_toArray, List.set_cons_zero, List.set_cons_succ]
  refine wpAnyH_take (i := 4) (v := ?_) rfl (by kernel_rfl) (by kernel_rfl) (by kernel_rfl) (fun _ _ _ h => h) (Or.inl ⟨by rfl, ?_⟩) hHeld ?_
  rotate_left
  · intro wq hSw
    go_simp
    all_goals with_reducible rfl
  try simp only [Act.put, List.getElem_toArray, List.getElem_cons_succ, List.getElem_cons_zero, List.setIfInBounds_toArray, List.set_cons_zero, List.set_cons_succ]
  refine wpAnyH_ready (rs := [3, 5]) (by kernel_rfl) (by simp) ?_
  refine AllReadyH.cons rfl (fun K hK => ?_) (AllReadyH.cons rfl (fun K hK => ?_) AllReadyH.nil)
  · go_simp
    refine hK.out _ _ trivial (fun hHeld => ?_)
    clear hK K
    try simp only [Act.put, List.getElem_toArray, List.getElem_cons_succ, List.getElem_cons_zero, List.setIfInBounds_toArray, List.set_cons_zero, List.set_cons_succ]
    refine wpAnyH_ready (rs := [5]) (by kernel_rfl) (by simp) ?_
    refine AllReadyH.cons rfl (fun K hK => ?_) AllReadyH.nil
    go_simp
    refine hK.out _ _ trivial (fun hHeld => ?_)
    clear hK K
    try simp only [Act.put, List.getElem_toArray, List.getElem_cons_succ, List.getElem_cons_zero, List.setIfInBounds_toArray, List.set_cons_zero, List.set_cons_succ]
    refine wpAnyH_take (i := 6) (v := ?_) rfl (by kernel_rfl) (by kernel_rfl) (by kernel_rfl) (fun _ _ _ h => h) (Or.inl ⟨by rfl, ?_⟩) hHeld ?_
    rotate_left
    · intro wq hSw
      go_simp
      all_goals with_reducible rfl
    try simp only [Act.put, List.getElem_toArray, List.getElem_cons_succ, List.getElem_cons_zero, List.setIfInBounds_toArray, List.set_cons_zero, List.set_cons_succ]
    refine wpAnyH_ready (rs := [7]) (by kernel_rfl) (by simp) ?_
    refine AllReadyH.cons rfl (fun K hK => ?_) AllReadyH.nil
    go_simp
    refine hK.out _ _ trivial (fun hHeld => ?_)
    clear hK K
    try simp only [Act.put, List.getElem_toArray, List.getElem_cons_succ, List.getElem_cons_zero, List.setIfInBounds_toArray, List.set_cons_zero, List.set_cons_succ]
    refine wpAnyH_take (i := 8) (v := ?_) rfl (by kernel_rfl) (by kernel_rfl) (by kernel_rfl) (fun _ _ _ h => h) (Or.inl ⟨by rfl, ?_⟩) hHeld ?_
    rotate_left
    · intro wq hSw
      go_simp
      all_goals with_reducible rfl
    try simp only [Act.put, List.getElem_toArray, List.getElem_cons_succ, List.getElem_cons_zero, List.setIfInBounds_toArray, List.set_cons_zero, List.set_cons_succ]
    refine wpAnyH_take (i := 9) (v := ?_) rfl (by kernel_rfl) (by kernel_rfl) (by kernel_rfl) (fun _ _ _ h => h) (Or.inl ⟨by rfl, ?_⟩) hHeld ?_
    rotate_left
    · intro wq hSw
      go_simp
      all_goals with_reducible rfl
    try simp only [Act.put, List.getElem_toArray, List.getElem_cons_succ, List.getElem_cons_zero, List.setIfInBounds_toArray, List.set_cons_zero, List.set_cons_succ]
    refine wpAnyH_done (by kernel_rfl) ?_ _
    refine NoPanic.normal ?_
    clear hHeld mkb mks
    go_wp2_with fail
    go_ret2
    have T := three_allocs w (Array.replicate g (Value.bool false)) ((List.replicate g PairV.zero).flatMap PairV.vals).toArray #[.int .i64 (g : Int), .int .i64 (s : Int), .slice (some ⟨w.heap.size, 0, none⟩) g g, .slice (some ⟨w.heap.size + 1, 0, none⟩) g g] 4 34 149
    obtain ⟨F, hR, hF⟩ := refR_new (w := w) (b := w.heap.size + 1 + 1) (bi := w.heap.size) (br := w.heap.size + 1) (g := g) (s := s) T.2.2.2 (by omega) (by omega) (by omega) (by omega) T.2.2.1 T.1 T.2.1
    exact ⟨_, _, _, F, rfl, hR, hF, T.2.2.2⟩
  · go_simp
    refine hK.out _ _ trivial (fun hHeld => ?_)
    clear hK K
    try simp only [Act.put, List.getElem_toArray, List.getElem_cons_succ, List.getElem_cons_zero, List.setIfInBounds_toArray, List.set_cons_zero, List.set_cons_succ]
    refine wpAnyH_ready (rs := [3]) (by kernel_rfl) (by simp) ?_
    refine AllReadyH.cons rfl (fun K hK => ?_) AllReadyH.nil
    go_simp
    refine hK.out _ _ trivial (fun hHeld => ?_)
    clear hK K
    try simp only [Act.put, List.getElem_toArray, List.getElem_cons_succ, List.getElem_cons_zero, List.setIfInBounds_toArray, List.set_cons_zero, List.set_cons_succ]
    refine wpAnyH_take (i := 6) (v := ?_) rfl (by kernel_rfl) (by kernel_rfl) (by kernel_rfl) (fun _ _ _ h => h) (Or.inl ⟨by rfl, ?_⟩) hHeld ?_
    rotate_left
    · intro wq hSw
      go_simp
      all_goals with_reducible rfl
    try simp only [Act.put, List.getElem_toArray, List.getElem_cons_succ, List.getElem_cons_zero, List.setIfInBounds_toArray, List.set_cons_zero, List.set_cons_succ]
    refine wpAnyH_ready (rs := [7]) (by kernel_rfl) (by simp) ?_
    refine AllReadyH.cons rfl (fun K hK => ?_) AllReadyH.nil
    go_simp
    refine hK.out _ _ trivial (fun hHeld => ?_)
    clear hK K
    try simp only [Act.put, List.getElem_toArray, List.getElem_cons_succ, List.getElem_cons_zero, List.setIfInBounds_toArray, List.set_cons_zero, List.set_cons_succ]
    refine wpAnyH_take (i := 8) (v := ?_) rfl (by kernel_rfl) (by kernel_rfl) (by kernel_rfl) (fun _ _ _ h => h) (Or.inl ⟨by rfl, ?_⟩) hHeld ?_
    rotate_left
    · intro wq hSw
      go_simp
      all_goals with_reducible rfl
    try simp only [Act.put, List.getElem_toArray, List.getElem_cons_succ, List.getElem_cons_zero, List.setIfInBounds_toArray, List.set_cons_zero, List.set_cons_succ]
    refine wpAnyH_take (i := 9) (v := ?_) rfl (by kernel_rfl) (by kernel_rfl) (by kernel_rfl) (fun _ _ _ h => h) (Or.inl ⟨by rfl, ?_⟩) hHeld ?_
    rotate_left
    · intro wq hSw
      go_simp
      all_goals with_reducible rfl
    try simp only [Act.put, List.getElem_toArray, List.getElem_cons_succ, List.getElem_cons_zero, List.setIfInBounds_toArray, List.set_cons_zero, List.set_cons_succ]
    refine wpAnyH_done (by kernel_rfl) ?_ _
    refine NoPanic.normal ?_
    clear hHeld mkb mks
    go_wp2_with fail
    go_ret2
    have T := three_allocs w ((List.replicate g PairV.zero).flatMap PairV.vals).toArray (Array.replicate g (Value.bool false)) #[.int .i64 (g : Int), .int .i64 (s : Int), .slice (some ⟨w.heap.size + 1, 0, none⟩) g g, .slice (some ⟨w.heap.size, 0, none⟩) g g] 34 4 149
    obtain ⟨F, hR, hF⟩ := refR_new (w := w) (b := w.heap.size + 1 + 1) (bi := w.heap.size + 1) (br := w.heap.size) (g := g) (s := s) T.2.2.2 (by omega) (by omega) (by omega) (by omega) T.2.2.1 T.2.1 T.1
    exact ⟨_, _, _, F, rfl, hR, hF, T.2.2.2⟩
/-- A sum of rows: new memory. -/
structure SumR (w w' : World) (g s : Nat) (xs ys : List Nat) (p : PairV) : Prop where
  an : p.a.n = g
  bn : p.b.n = s
  a : Own w' w.heap.size 5 p.a.A p.a.n p.a.c p.a.xs
  b : Own w' w.heap.size 5 p.b.A p.b.n p.b.c p.b.xs
  ax : p.a.xs = xs
  bx : p.b.xs = ys
  keep : Keep w w'
set_option maxRecDepth 100000 in
set_option maxHeartbeats 2000000 in
theorem rpplus_any (g s c : Nat) (p q : PairV) (w : World) (hp : Bytes w w.heap.size p.a.A g p.a.xs ∧ Bytes w w.heap.size p.b.A s p.b.xs ∧ p.a.n = g ∧ p.b.n = s) (hq : Bytes w w.heap.size q.a.A g q.a.xs ∧ Bytes w w.heap.size q.b.A s q.b.xs ∧ q.a.n = g ∧ q.b.n = s) (hg : g ≤ 255) (hs : s ≤ 65535) (hc : c < 256) :
    Calls Tryz.prog 98 #[p.agg, q.agg, .int .u8 (c : Int)] w fun e w' => ∃ p', e = .returned p'.agg ∧ SumR w w' g s (vAddS g p.a.xs q.a.xs c) (vAddS s p.b.xs q.b.xs c) p' := by
  obtain ⟨⟨A1, n1, c1, x1⟩, ⟨A2, n2, c2, x2⟩⟩ := p
  obtain ⟨⟨A3, n3, c3, x3⟩, ⟨A4, n4, c4, x4⟩⟩ := q
  obtain ⟨p1, p2, rfl, rfl⟩ := hp
  obtain ⟨q1, q2, q3, q4⟩ := hq
  simp only at p1 p2 q1 q2 q3 q4 hg hs
  obtain rfl : n3 = n1 := q3
  obtain rfl : n4 = n2 := q4
  show Calls _ _ #[.agg #[.slice A1 n3 c1, .slice A2 n4 c2], .agg #[.slice A3 n3 c3, .slice A4 n4 c4], _] _ fun e w' => ∃ p', e = .returned p'.agg ∧ SumR w w' n3 n4 (vAddS n3 x1 x3 c) (vAddS n4 x2 x4 c) p'
  obtain ⟨⟨q0, hq0⟩⟩ : Nonempty (∃ q0, w.heap.size = q0) := ⟨_, rfl⟩
  have T := three_allocs' w #[.slice A1 n3 c1, .slice A2 n4 c2] #[.slice A3 n3 c3, .slice A4 n4 c4] #[.slice none 0 0, .slice none 0 0] 34 34 34
  rw [hq0] at T
  have HT := Lib.hid T
  have HB := Lib.hid (And.intro p1 (And.intro p2 (And.intro q1 q2)))
  have HQ0 := Lib.hid hq0
  clear T p1 p2 q1 q2
  go_enter Tryz.func98, Tryz.ntmps98
  go_wp2_with fail
  clear hq0
  generalize (((w.alloc (.cells #[.slice A1 n3 c1, .slice A2 n4 c2] 34)).alloc (.cells #[.slice A3 n3 c3, .slice A4 n4 c4] 34)).alloc (.cells #[.slice none 0 0, .slice none 0 0] 34)) = w3 at *
  have k0 : w3.cell? ⟨q0, 0, none⟩ = some (.slice A1 n3 c1) := cell_of_row _ _ _ _ _ _ HT.out.1
  have k1 : w3.cell? ⟨q0, 1, none⟩ = some (.slice A2 n4 c2) := cell_of_row _ _ _ _ _ _ HT.out.1
  have k2 : w3.cell? ⟨q0 + 1, 0, none⟩ = some (.slice A3 n3 c3) := cell_of_row _ _ _ _ _ _ HT.out.2.1
  have k3 : w3.cell? ⟨q0 + 1, 1, none⟩ = some (.slice A4 n4 c4) := cell_of_row _ _ _ _ _ _ HT.out.2.1
  have HL : Hid (q0 < w3.heap.size ∧ q0 + 1 < w3.heap.size ∧ q0 + 1 + 1 < w3.heap.size) := ⟨(Array.getElem?_eq_some_iff.1 HT.out.1).1, (Array.getElem?_eq_some_iff.1 HT.out.2.1).1, (Array.getElem?_eq_some_iff.1 HT.out.2.2.1).1⟩
  refine wp_region_noPanic ?_
  refine wp_region_held_drew (S := fun wz => wz.cell? ⟨q0, 0, none⟩ = some (.slice A1 n3 c1) ∧ wz.cell? ⟨q0, 1, none⟩ = some (.slice A2 n4 c2) ∧ wz.cell? ⟨q0 + 1, 0, none⟩ = some (.slice A3 n3 c3) ∧ wz.cell? ⟨q0 + 1, 1, none⟩ = some (.slice A4 n4 c4)) (by kernel_rfl) ⟨k0, k1, k2, k3⟩ (fun hHeld => ?_)
  refine wpAnyH_take (i := 0) (v := ?_) rfl (by kernel_rfl) (by kernel_rfl) (by kernel_rfl) (fun _ _ _ h => h) (Or.inl ⟨by rfl, ?_⟩) hHeld ?_
  rotate_left
  · intro wq hSw
    go_simp
    all_goals with_reducible rfl
  try simp only [Act.put, List.getElem_toArray, List.getElem_cons_succ, List.getElem_cons_zero, List.setIfInBounds_toArray, List.set_cons_zero, List.set_cons_succ]
  refine wpAnyH_take (i := 1) (v := ?_) rfl (by kernel_rfl) (by kernel_rfl) (by kernel_rfl) (fun _ _ _ h => h) (Or.inl ⟨by rfl, ?_⟩) hHeld ?_
  rotate_left
  · intro wq hSw
    have q0 := hSw.1
    have q1 := hSw.2.1
    have q2 := hSw.2.2.1
    have q3 := hSw.2.2.2
    go_simp
    all_goals with_reducible rfl
  try simp only [Act.put, List.getElem_toArray, List.getElem_cons_succ, List.getElem_cons_zero, List.setIfInBounds_toArray, List.set_cons_zero, List.set_cons_succ]
  refine wpAnyH_take (i := 2) (v := ?_) rfl (by kernel_rfl) (by kernel_rfl) (by kernel_rfl) (fun _ _ _ h => h) (Or.inl ⟨by rfl, ?_⟩) hHeld ?_
  rotate_left
  · intro wq hSw
    go_simp
    all_goals with_reducible rfl
  try simp only [Act.put, List.getElem_toArray, List.getElem_cons_succ, List.getElem_cons_zero, List.setIfInBounds_toArray, List.set_cons_zero, List.set_cons_succ]
  refine wpAnyH_take (i := 3) (v := ?_) rfl (by kernel_rfl) (by kernel_rfl) (by kernel_rfl) (fun _ _ _ h => h) (Or.inl ⟨by rfl, ?_⟩) hHeld ?_
  rotate_left
  · intro wq hSw
    have q0 := hSw.1
    have q1 := hSw.2.1
    have q2 := hSw.2.2.1
    have q3 := hSw.2.2.2
    go_simp
    all_goals with_reducible rfl
  try simp only [Act.put, List.getElem_toArray, List.getElem_cons_succ, List.getElem_cons_zero, List.setIfInBounds_toArray, List.set_cons_zero, List.set_cons_succ]
  refine wpAnyH_take (i := 4) (v := ?_) rfl (by kernel_rfl) (by kernel_rfl) (by kernel_rfl) (fun _ _ _ h => h) (Or.inl ⟨by rfl, ?_⟩) hHeld ?_
  rotate_left
  · intro wq hSw
    go_simp
    all_goals with_reducible rfl
  try simp only [Act.put, List.getElem_toArray, List.getElem_cons_succ, List.getElem_cons_zero, List.setIfInBounds_toArray, List.set_cons_zero, List.set_cons_succ]
  refine wpAnyH_take (i := 6) (v := ?_) rfl (by kernel_rfl) (by kernel_rfl) (by kernel_rfl) (fun _ _ _ h => h) (Or.inl ⟨by rfl, ?_⟩) hHeld ?_
  rotate_left
  · intro wq hSw
    go_simp
    all_goals with_reducible rfl
  try simp only [Act.put, List.getElem_toArray, List.getElem_cons_succ, List.getElem_cons_zero, List.setIfInBounds_toArray, List.set_cons_zero, List.set_cons_succ]
  refine wpAnyH_take (i := 7) (v := ?_) rfl (by kernel_rfl) (by kernel_rfl) (by kernel_rfl) (fun _ _ _ h => h) (Or.inl ⟨by rfl, ?_⟩) hHeld ?_
  rotate_left
  · intro wq hSw
    have q0 := hSw.1
    have q1 := hSw.2.1
    have q2 := hSw.2.2.1
    have q3 := hSw.2.2.2
    go_simp
    all_goals with_reducible rfl
  try simp only [Act.put, List.getElem_toArray, List.getElem_cons_succ, List.getElem_cons_zero, List.setIfInBounds_toArray, List.set_cons_zero, List.set_cons_succ]
  refine wpAnyH_take (i := 8) (v := ?_) rfl (by kernel_rfl) (by kernel_rfl) (by kernel_rfl) (fun _ _ _ h => h) (Or.inl ⟨by rfl, ?_⟩) hHeld ?_
  rotate_left
  · intro wq hSw
    go_simp
    all_goals with_reducible rfl
  try simp only [Act.put, List.getElem_toArray, List.getElem_cons_succ, List.getElem_cons_zero, List.setIfInBounds_toArray, List.set_cons_zero, List.set_cons_succ]
  refine wpAnyH_take (i := 9) (v := ?_) rfl (by kernel_rfl) (by kernel_rfl) (by kernel_rfl) (fun _ _ _ h => h) (Or.inl ⟨by rfl, ?_⟩) hHeld ?_
  rotate_left
  · intro wq hSw
    have q0 := hSw.1
    have q1 := hSw.2.1
    have q2 := hSw.2.2.1
    have q3 := hSw.2.2.2
    go_simp
    all_goals with_reducible rfl
  try simp only [Act.put, List.getElem_toArray, List.getElem_cons_succ, List.getElem_cons_zero, List.setIfInBounds_toArray, List.set_cons_zero, List.set_cons_succ]
  refine wpAnyH_take (i := 10) (v := ?_) rfl (by kernel_rfl) (by kernel_rfl) (by kernel_rfl) (fun _ _ _ h => h) (Or.inl ⟨by rfl, ?_⟩) hHeld ?_
  rotate_left
  · intro wq hSw
    go_simp
    all_goals with_reducible rfl
  try simp only [Act.put, List.getElem_toArray, List.getElem_cons_succ, List.getElem_cons_zero, List.setIfInBounds_toArray, List.set_cons_zero, List.set_cons_succ]
  refine wpAnyH_ready (rs := [5]) (by kernel_rfl) (by simp) ?_
  refine AllReadyH.cons rfl (fun K hK => ?_) AllReadyH.nil
  go_simp
  refine (rplus_any _ _ n3 n3 c1 c3 c A1 A3 x1 x3 _ (HB.out.1.keep (Nat.le_refl _) HT.out.2.2.2.drew) (HB.out.2.2.1.keep (Nat.le_refl _) HT.out.2.2.2.drew) HT.out.2.2.2.size HT.out.2.2.2.size (by omega) (Nat.le_refl _) hc).mono ?_
  rintro e w4 ⟨A5, n5, c5, rfl, o5, k5⟩
  obtain rfl : n5 = n3 := by rw [← o5.length]; exact tab_length _ _
  have K4 : Hid (Keep w3 w4) := (Keep.drew (Keep.refl w3)).trans k5
  have O5 : Hid (Own w4 w3.heap.size 5 A5 n5 c5 _) := o5
  have k0' := (K4.out.cell (p := ⟨q0, 0, none⟩) HL.out.1).trans k0
  have k1' := (K4.out.cell (p := ⟨q0, 1, none⟩) HL.out.1).trans k1
  have k2' := (K4.out.cell (p := ⟨q0 + 1, 0, none⟩) HL.out.2.1).trans k2
  have k3' := (K4.out.cell (p := ⟨q0 + 1, 1, none⟩) HL.out.2.1).trans k3
  clear o5 k5
  refine hK.out _ _ ⟨k0', k1', k2', k3'⟩ (fun hHeld => ?_)
  clear hK K
  try simp only [Act.put, List.getElem_toArray, List.getElem_cons_succ, List.getElem_cons_zero, List.setIfInBounds_toArray, List.set_cons_zero, List.set_cons_succ]
  refine wpAnyH_ready (rs := [11]) (by kernel_rfl) (by simp) ?_
  refine AllReadyH.cons rfl (fun K hK => ?_) AllReadyH.nil
  go_simp
  refine (rplus_any _ _ n4 n4 c2 c4 c A2 A4 x2 x4 _ (HB.out.2.1.keep (Nat.le_refl _) (HT.out.2.2.2.trans K4.out)) (HB.out.2.2.2.keep (Nat.le_refl _) (HT.out.2.2.2.trans K4.out)) (HT.out.2.2.2.trans K4.out).size (HT.out.2.2.2.trans K4.out).size (by omega) (Nat.le_refl _) hc).mono ?_
  rintro e w5 ⟨A6, n6, c6, rfl, o6, k6⟩
  obtain rfl : n6 = n4 := by rw [← o6.length]; exact tab_length _ _
  have K5 : Hid (Keep w3 w5) := K4.out.trans k6
  have O6 : Hid (Own w5 w4.heap.size 5 A6 n6 c6 _) := o6
  have O5' := Lib.hid (O5.out.keep k6)
  have k0'' := (K5.out.cell (p := ⟨q0, 0, none⟩) HL.out.1).trans k0
  have k1'' := (K5.out.cell (p := ⟨q0, 1, none⟩) HL.out.1).trans k1
  have k2'' := (K5.out.cell (p := ⟨q0 + 1, 0, none⟩) HL.out.2.1).trans k2
  have k3'' := (K5.out.cell (p := ⟨q0 + 1, 1, none⟩) HL.out.2.1).trans k3
  clear o6 k6 k0' k1' k2' k3' O5
  refine hK.out _ _ ⟨k0'', k1'', k2'', k3''⟩ (fun hHeld => ?_)
  clear hK K
  try simp only [Act.put, List.getElem_toArray, List.getElem_cons_succ, List.getElem_cons_zero, List.setIfInBounds_toArray, List.set_cons_zero, List.set_cons_succ]
  refine wpAnyH_take (i := 12) (v := ?_) rfl (by kernel_rfl) (by kernel_rfl) (by kernel_rfl) (fun _ _ _ h => h) (Or.inl ⟨by rfl, ?_⟩) hHeld ?_
  rotate_left
  · intro wq hSw
    go_simp
    all_goals with_reducible rfl
  try simp only [Act.put, List.getElem_toArray, List.getElem_cons_succ, List.getElem_cons_zero, List.setIfInBounds_toArray, List.set_cons_zero, List.set_cons_succ]
  have HT5 : Hid (w5.heap[q0 + 1 + 1]? = some (.cells #[.slice none 0 0, .slice none 0 0] 34 (0, 0))) := (K5.out.block _ HL.out.2.2).trans HT.out.2.2.1
  have z0 : w5.cell? ⟨q0 + 1 + 1, 0, none⟩ = some (.slice none 0 0) := cell_of_row _ _ _ _ _ _ HT5.out
  have z1 : w5.cell? ⟨q0 + 1 + 1, 1, none⟩ = some (.slice none 0 0) := cell_of_row _ _ _ _ _ _ HT5.out
  have f0 : w5.frozen? ⟨q0 + 1 + 1, 0, none⟩ = false := by simp [World.frozen?, HT5.out]
  have f1 : w5.frozen? ⟨q0 + 1 + 1, 1, none⟩ = false := by simp [World.frozen?, HT5.out]
  refine wpAnyH_ready (rs := [13]) (by kernel_rfl) (by simp) ?_
  refine AllReadyH.cons rfl (fun K hK => ?_) AllReadyH.nil
  go_simp
  have T6 : Turned (fun b => b = q0 + 1 + 1) w5 ((w5.setCell ⟨q0 + 1 + 1, 0, none⟩ (.slice A5 n5 c5)).setCell ⟨q0 + 1 + 1, 1, none⟩ (.slice A6 n6 c6)) :=
    (Turned.set (F := fun b => b = q0 + 1 + 1) w5 ⟨q0 + 1 + 1, 0, none⟩ (.slice A5 n5 c5) rfl).trans (Turned.set (F := fun b => b = q0 + 1 + 1) _ ⟨q0 + 1 + 1, 1, none⟩ (.slice A6 n6 c6) rfl) fun _ e => Or.inl e
  have j0 := T6.cell k0'' (by show ¬ q0 = q0 + 1 + 1; omega)
  have j1 := T6.cell k1'' (by show ¬ q0 = q0 + 1 + 1; omega)
  have j2 := T6.cell k2'' (by show ¬ q0 + 1 = q0 + 1 + 1; omega)
  have j3 := T6.cell k3'' (by show ¬ q0 + 1 = q0 + 1 + 1; omega)
  refine hK.out _ _ ⟨j0, j1, j2, j3⟩ (fun hHeld => ?_)
  clear hK K
  try simp only [Act.put, List.getElem_toArray, List.getElem_cons_succ, List.getElem_cons_zero, List.setIfInBounds_toArray, List.set_cons_zero, List.set_cons_succ]
  refine wpAnyH_done (by kernel_rfl) ?_ _
  refine NoPanic.normal ?_
  clear hHeld
  have hb := bset (i := 1) (bset (i := 0) HT5.out (.slice A5 n5 c5)) (.slice A6 n6 c6)
  have HBK := Lib.hid hb
  have HT6 := Lib.hid T6
  clear j0 j1 j2 j3 k0'' k1'' k2'' k3'' z0 z1 f0 f1 T6 hb
  go_wp2_with fail
  have K : Keep w ((w5.setCell ⟨q0 + 1 + 1, 0, none⟩ (.slice A5 n5 c5)).setCell ⟨q0 + 1 + 1, 1, none⟩ (.slice A6 n6 c6)) := HT6.out.keep (HT.out.2.2.2.trans K5.out) fun i e => by rw [e, HQ0.out]; omega
  refine bodyPost_ret (v := .agg #[.slice A5 n5 c5, .slice A6 n6 c6]) ?_ rfl ⟨⟨⟨A5, n5, c5, _⟩, ⟨A6, n6, c6, _⟩⟩, rfl, rfl, rfl, (O5'.out.turned HT6.out fun x hx e => ?_).lower ?_, (O6.out.turned HT6.out fun x hx e => ?_).lower ?_, rfl, rfl, K⟩
  · exact results_cell_row (p := 6) (ty := 34) rfl _ _ (q0 + 1 + 1) 34 _ (0, 0) _ rfl HBK.out Tryz.underlying34 rfl infoRowSize
  · have h1 := (O5'.out.1.lt x hx).1
    have h2 := HL.out
    omega
  · exact HT.out.2.2.2.size
  · have h1 := (O6.out.1.lt x hx).1
    have h2 := HL.out
    have h3 := K4.out.size
    omega
  · exact (HT.out.2.2.2.trans K4.out).size
set_option maxRecDepth 100000 in
/-- The first place that is not 0. -/
theorem rplead_any (B n ca : Nat) (A : Option Addr) (xs : List Nat) (w : World) (h : Bytes w B A n xs) (hn : n ≤ 1000000) (v : Nat) (hv : (vLead n xs < 0 → v = n) ∧ (¬ vLead n xs < 0 → vLead n xs = (v : Int))) :
    Calls Tryz.prog 96 #[.slice A n ca] w fun e w' => e = .returned (.int .i64 (v : Int)) ∧ w = w' := by
  have HH := Lib.hid h
  have HV := Lib.hid hv
  clear h hv
  go_enter Tryz.func96, Tryz.ntmps96
  go_wp2_with fail
  go_loop [3] (fun i => ∃ k : Nat, k ≤ n ∧ i = .int .i64 k ∧ ∀ j, j < k → xs.getD j 0 = 0) (fun i => n - (intOf i).toNat)
  case atStart => exact ⟨0, by omega, rfl, fun j hj => by omega⟩
  case round =>
    obtain ⟨k, hk, rfl, hz⟩ := hrel
    have HZ := Lib.hid hz
    clear hz
    by_cases hlt : k < n
    · obtain ⟨b, off, rfl, hb, cx⟩ := HH.out.at_ hlt
      have e1 : (0 : Int) ≤ (k : Int) := Int.natCast_nonneg _
      have e2 : (k : Int) < (n : Int) := by omega
      by_cases hx : xs.getD k 0 = 0
      · rw [hx] at cx
        have HX := Lib.hid hx
        clear hx
        go_wp2_with fail
        go_round
        case rel => exact ⟨k + 1, by omega, by go_num, fun j hj => by
          by_cases e : j = k
          · rw [e]; exact HX.out
          · exact HZ.out j (by omega)⟩
        case measure => simp [intOf]; omega
      · have hle := vLead_at hlt hx HZ.out
        have hvk : v = k := by
          have := HV.out.2 (by rw [hle]; omega)
          rw [hle] at this; omega
        obtain ⟨x, hxe⟩ : ∃ x, xs.getD k 0 = x := ⟨_, rfl⟩
        rw [hxe] at cx hx
        have b1 : ((x : Int) != 0) = true := by rw [bne_iff_ne]; omega
        clear hle hx hxe
        go_wp2_with fail
        go_ret
        exact ⟨rfl, rfl⟩
    · obtain rfl : k = n := by omega
      have hvk : v = k := HV.out.1 (vLead_neg HZ.out)
      go_wp2_with fail
      go_ret
      exact ⟨rfl, rfl⟩
end Go.Proofs.YtcjjhblgejkkeaaGreat
/- The document's own basis: what its rows leave of one. -/
namespace Go.Proofs.YtcjjhblgejkkeaaGreat
open Go.RowKit Lin
set_option linter.unusedVariables false
set_option linter.unusedSimpArgs false
/-- A row at work, in a box at q. -/
structure RedW (w wr : World) (G : Nat → Prop) (q g s : Nat) (v : List Nat) (p : PairV) : Prop where
  base : w.heap.size = q
  row : wr.heap[q]? = some (.cells #[p.a.val, p.b.val] 34 (0, 0))
  res : wr.heap[q + 1]? = some (.cells #[.slice none 0 0, .slice none 0 0] 34 (0, 0))
  an : p.a.n = g
  bn : p.b.n = s
  a : LiesIn wr (fun b => G b ∨ (q + 2 ≤ b ∧ b < wr.heap.size)) p.a
  b : LiesIn wr (fun b => G b ∨ (q + 2 ≤ b ∧ b < wr.heap.size)) p.b
  xs : p.a.xs ++ p.b.xs = v
  keep : Keep w wr
theorem RedW.later {w wr w2 : World} {G : Nat → Prop} {q g s : Nat} {v : List Nat} {p : PairV} (h : RedW w wr G q g s v p) (k : Keep wr w2) : RedW w w2 G q g s v p :=
  ⟨h.base, (k.block _ (Array.getElem?_eq_some_iff.1 h.row).1).trans h.row, (k.block _ (Array.getElem?_eq_some_iff.1 h.res).1).trans h.res, h.an, h.bn,
    (h.a.turned (Turned.of_keep (F := fun _ => False) k) fun _ _ e => e).mono fun b hb => hb.imp id fun e => ⟨e.1, Nat.lt_of_lt_of_le e.2 k.size⟩,
    (h.b.turned (Turned.of_keep (F := fun _ => False) k) fun _ _ e => e).mono fun b hb => hb.imp id fun e => ⟨e.1, Nat.lt_of_lt_of_le e.2 k.size⟩, h.xs, h.keep.trans k⟩
theorem RedW.put {w wr w4 w5 : World} {G : Nat → Prop} {q g s : Nat} {v v' xs ys : List Nat} {p p' : PairV} (h : RedW w w4 G q g s v p) (hG : ∀ k, G k → k < q) (hb : w5.heap[q]? = some (.cells #[p'.a.val, p'.b.val] 34 (0, 0))) (t : Turned (fun b => b = q) w4 w5) (hC : SumR wr w4 g s xs ys p') (hqw : q + 1 < wr.heap.size) (hx : p'.a.xs ++ p'.b.xs = v') : RedW w w5 G q g s v' p' := by
  have hd : ∀ b, (wr.heap.size ≤ b ∧ b < w4.heap.size) → ¬ b = q := fun b hb => by omega
  have hm : ∀ b, (wr.heap.size ≤ b ∧ b < w4.heap.size) → (G b ∨ (q + 2 ≤ b ∧ b < w5.heap.size)) := fun b hb => Or.inr ⟨by omega, Nat.lt_of_lt_of_le hb.2 t.size⟩
  exact ⟨h.base, hb, (t.block _ (Array.getElem?_eq_some_iff.1 h.res).1 (by omega)).trans h.res, hC.an, hC.bn,
    ((hC.a.lies.mono fun b hb => hC.a.1.lt b hb).turned t hd).mono hm, ((hC.b.lies.mono fun b hb => hC.b.1.lt b hb).turned t hd).mono hm, hx, t.keep h.keep fun i e => by rw [e, h.base]; exact Nat.le_refl _⟩
theorem pair_cut {g s : Nat} {v v' x y : List Nat} (hx : x.length = g) (hv : x ++ y = v) {c : Nat} {p : PairV} (hp : p.a.xs.length = g) (he : v' = vAddS (g + s) v p.xs c) : vAddS g x p.a.xs c ++ vAddS s y p.b.xs c = v' := by
  have t := vAddS_take g s v p.xs c
  have d := vAddS_drop g s v p.xs c
  rw [← hv, List.take_left' hx, PairV.xs, List.take_left' hp] at t
  rw [← hv, List.drop_left' hx, PairV.xs, List.drop_left' hp] at d
  rw [he, ← List.take_append_drop g (vAddS (g + s) v p.xs c), ← hv, PairV.xs, t, d]
set_option maxRecDepth 100000 in
set_option maxHeartbeats 4000000 in
theorem rpreduce_any {w : World} {F G : Nat → Prop} {b g s bi br : Nat} {iv : List Bool} {R : List PairV} {B : List (List Nat)} (h : RefR w F b g s bi br iv R) (hS : Slots g s iv R B) (p : PairV) (hp : LiesIn w G p.a ∧ LiesIn w G p.b ∧ p.a.n = g ∧ p.b.n = s) (hG : ∀ k, G k → k < w.heap.size) (hg : g ≤ 255) (hs : s ≤ 65535) :
    Calls Tryz.prog 95 #[.pointer (some ⟨b, 0, none⟩), p.agg] w fun e w' => ∃ p' : PairV, e = .returned p'.agg ∧ p'.a.n = g ∧ p'.b.n = s ∧ (LiesIn w' (fun b => G b ∨ (w.heap.size ≤ b ∧ b < w'.heap.size)) p'.a ∧ LiesIn w' (fun b => G b ∨ (w.heap.size ≤ b ∧ b < w'.heap.size)) p'.b) ∧ p'.xs = leftB (g + s) B p.xs ∧ Keep w w' := by
  obtain ⟨⟨A1, n1, c1, x1⟩, ⟨A2, n2, c2, x2⟩⟩ := p
  obtain ⟨p1, p2, p3, p4⟩ := hp
  simp only at p3 p4
  obtain rfl : n1 = g := p3
  obtain rfl : n2 = s := p4
  show Calls _ _ #[_, .agg #[.slice A1 n1 c1, .slice A2 n2 c2]] _ _
  obtain ⟨⟨q, hq⟩⟩ : Nonempty (∃ q, w.heap.size = q) := ⟨_, rfl⟩
  have h0 : RedW w ((w.alloc (.cells #[.slice A1 n1 c1, .slice A2 n2 c2] 34)).alloc (.cells #[.slice none 0 0, .slice none 0 0] 34)) G q n1 n2 (clearTo (n1 + n2) B (x1 ++ x2) (cnt iv R 0)) ⟨⟨A1, n1, c1, x1⟩, ⟨A2, n2, c2, x2⟩⟩ := by
    subst hq
    have k : Keep w ((w.alloc (.cells #[.slice A1 n1 c1, .slice A2 n2 c2] 34)).alloc (.cells #[.slice none 0 0, .slice none 0 0] 34)) := ((Keep.refl w).alloc _ _).alloc _ _
    have k1 : Keep (w.alloc (.cells #[.slice A1 n1 c1, .slice A2 n2 c2] 34)) ((w.alloc (.cells #[.slice A1 n1 c1, .slice A2 n2 c2] 34)).alloc (.cells #[.slice none 0 0, .slice none 0 0] 34)) := (Keep.refl _).alloc _ _
    have e2 := heap_alloc_new (w.alloc (.cells #[.slice A1 n1 c1, .slice A2 n2 c2] 34)) (.cells #[.slice none 0 0, .slice none 0 0] 34)
    rw [show (w.alloc (.cells #[.slice A1 n1 c1, .slice A2 n2 c2] 34)).heap.size = w.heap.size + 1 by simp] at e2
    exact ⟨rfl, (k1.block _ (by simp)).trans (heap_alloc_new _ _), e2, rfl, rfl, (p1.turned (Turned.of_keep (F := fun _ => False) k) fun _ _ e => e).mono fun b hb => Or.inl hb, (p2.turned (Turned.of_keep (F := fun _ => False) k) fun _ _ e => e).mono fun b hb => Or.inl hb, rfl, k⟩
  have H := Lib.hid h
  have HS := Lib.hid hS
  have H0 := Lib.hid h0
  have HQ := Lib.hid hq
  have HG : Hid (∀ k, G k → k < q) := fun k hk => by rw [← hq]; exact hG k hk
  have HB := Lib.hid (And.intro (h.lt b h.fb) (And.intro h.c0 (And.intro h.c2 h.c3)))
  clear h hS h0 p1 p2 hG
  go_enter Tryz.func95, Tryz.ntmps95
  go_wp2_with fail
  clear hq
  generalize ((w.alloc (.cells #[.slice A1 n1 c1, .slice A2 n2 c2] 34)).alloc (.cells #[.slice none 0 0, .slice none 0 0] 34)) = w2 at *
  go_loopw [5] (fun i wr => ∃ (k : Nat) (p : PairV), k ≤ n1 ∧ i = .int .i64 k ∧ RedW w wr G q n1 n2 (clearTo (n1 + n2) B (x1 ++ x2) (cnt iv R k)) p) (fun i _ => n1 - (intOf i).toNat)
  case atStart => exact ⟨0, _, by omega, rfl, H0.out⟩
  case round =>
    obtain ⟨k, p, hk, rfl, hI⟩ := hrel
    have HI := Lib.hid hI
    clear hI H0
    have c0 := (HI.out.keep.cell (p := ⟨b, 0, none⟩) HB.out.1).trans HB.out.2.1
    by_cases hlt : k < n1
    · have c2' := (HI.out.keep.cell (p := ⟨b, 2, none⟩) HB.out.1).trans HB.out.2.2.1
      have hx := List.getElem?_eq_getElem (l := iv) (i := k) (by rw [H.out.li]; exact hlt)
      have hp := List.getElem?_eq_getElem (l := R) (i := k) (by rw [H.out.lr]; exact hlt)
      obtain ⟨x, hxe⟩ : ∃ x, iv[k]'(by rw [H.out.li]; exact hlt) = x := ⟨_, rfl⟩
      obtain ⟨r, hre⟩ : ∃ r, R[k]'(by rw [H.out.lr]; exact hlt) = r := ⟨_, rfl⟩
      rw [hxe] at hx
      rw [hre] at hp
      have cb := (HI.out.keep.cell (p := ⟨bi, k, none⟩) (H.out.lt bi H.out.fi)).trans (H.out.cb hx)
      have e1 : (0 : Int) ≤ (k : Int) := Int.natCast_nonneg _
      have e2 : (k : Int) < (n1 : Int) := by omega
      have HXP := Lib.hid (And.intro hx hp)
      have HLT : Hid (k < n1) := hlt
      clear hxe hre hx hp hlt
      cases x with
      | false =>
        have hc := cnt_no HXP.out.1 HXP.out.2
        go_wp2_with fail
        go_roundw
        case rel => exact ⟨k + 1, p, by have := HLT.out; omega, by go_num, by rw [hc]; exact HI.out⟩
        case measure => have := HLT.out; simp [intOf]; omega
      | true =>
        have hrow := H.out.rows k r HXP.out.1 HXP.out.2
        have hz := HS.out.size k r HXP.out.1 HXP.out.2
        have hst := HS.out.clear (x1 ++ x2) HXP.out.1 HXP.out.2
        have HST := Lib.hid (And.intro hst hz)
        have hcl := (H.out.st.keep HI.out.keep).cells HXP.out.2
        have hra := hrow.1.1.bytes (B := w.heap.size) fun x hx => H.out.lt x hx.1
        have hrb := hrow.1.2.bytes (B := w.heap.size) fun x hx => H.out.lt x hx.1
        rw [hrow.2.1] at hra
        rw [hrow.2.2] at hrb
        obtain ⟨⟨rA, rn, rc, rx⟩, ⟨sA, sn, sc, sx⟩⟩ := r
        obtain ⟨z1, z2⟩ := hrow.2
        simp only at z1 z2
        obtain rfl : rn = n1 := z1
        obtain rfl : sn = n2 := z2
        obtain ⟨⟨pA, pn, pc, px⟩, ⟨tA, tn, tc, tx⟩⟩ := p
        obtain rfl : pn = rn := HI.out.an
        obtain rfl : tn = sn := HI.out.bn
        have HGS : Hid (∀ b, (G b ∨ (q + 2 ≤ b ∧ b < wr.heap.size)) → b < wr.heap.size) := fun b hb => by
          rcases hb with e | e
          · have h1 := HG.out b e
            have h2 := HI.out.keep.size
            have h3 := HQ.out
            omega
          · exact e.2
        have hpa := HI.out.a.bytes (B := wr.heap.size) fun b hb => HGS.out b hb
        have hpb := HI.out.b.bytes (B := wr.heap.size) fun b hb => HGS.out b hb
        obtain ⟨bx, ox, hA, hbx, cx⟩ := hpa.at_ HLT.out
        simp only at hA
        subst hA
        obtain ⟨v, hv⟩ : ∃ v, px.getD k 0 = v := ⟨_, rfl⟩
        have hvb : v < 256 := by rw [← hv]; exact hpa.all.getD k
        have hv2 : (clearTo (pn + tn) B (x1 ++ x2) (cnt iv R k)).getD k 0 = v := by
          rw [← HI.out.xs, List.getD_eq_getElem?_getD, List.getElem?_append_left (by have := hpa.length; rw [this]; exact HLT.out), ← List.getD_eq_getElem?_getD]; exact hv
        simp only at cx
        rw [hv] at cx
        have HP := Lib.hid (And.intro hpa (And.intro hpb (And.intro (hra.keep (Nat.le_refl _) HI.out.keep) (hrb.keep (Nat.le_refl _) HI.out.keep))))
        have HV := Lib.hid (And.intro hvb hv2)
        have y0 : wr.cell? ⟨q, 0, none⟩ = some (.slice (some ⟨bx, ox, none⟩) pn pc) := cell_of_row _ _ _ _ _ _ HI.out.row
        have y1 : wr.cell? ⟨q, 1, none⟩ = some (.slice tA tn tc) := cell_of_row _ _ _ _ _ _ HI.out.row
        have y2 := (HI.out.keep.cell (p := ⟨b, 3, none⟩) HB.out.1).trans HB.out.2.2.2
        have y3 : wr.cell? ⟨br, k * 2, none⟩ = some (.slice rA pn rc) := hcl.1
        have y4 : wr.cell? ⟨br, k * 2 + 1, none⟩ = some (.slice sA tn sc) := hcl.2
        have HLL : Hid (q < wr.heap.size ∧ b < wr.heap.size ∧ br < wr.heap.size ∧ bx < wr.heap.size ∧ br < q ∧ b < q) := ⟨(Array.getElem?_eq_some_iff.1 HI.out.row).1, Nat.lt_of_lt_of_le HB.out.1 HI.out.keep.size, Nat.lt_of_lt_of_le (H.out.lt br H.out.fr) HI.out.keep.size, hbx, by rw [← HQ.out]; exact H.out.lt br H.out.fr, by rw [← HQ.out]; exact HB.out.1⟩
        have HBXQ : Hid (bx ≠ q) := by
          show bx ≠ q
          obtain ⟨b', o', e, hF, _⟩ := HI.out.a.2.2.2 (by have := HLT.out; show 0 < pn; omega)
          cases e
          rcases hF with e | e
          · have := HG.out bx e; omega
          · omega
        clear hrow hst hz hcl hra hrb hpa hpb hv hvb hv2 hbx
        go_wp2_with fail
        clear c2' cb c0
        refine wp_region_noPanic ?_
        refine wp_region_held_drew (S := fun wz => wz.cell? ⟨b, 3, none⟩ = some (.slice (some ⟨br, 0, none⟩) pn pn) ∧ wz.cell? ⟨br, k * 2, none⟩ = some (.slice rA pn rc) ∧ wz.cell? ⟨br, k * 2 + 1, none⟩ = some (.slice sA tn sc) ∧ wz.cell? ⟨bx, ox + k, none⟩ = some (.int .u8 (v : Int))) (by kernel_rfl) ⟨y2, y3, y4, cx⟩ (fun hHeld => ?_)
        refine wpAnyH_take (i := 1) (v := ?_) rfl (by kernel_rfl) (by kernel_rfl) (by kernel_rfl) (fun _ _ _ h => h) (Or.inl ⟨by rfl, ?_⟩) hHeld ?_
        rotate_left
        · intro wq hSw
          go_simp
          all_goals with_reducible rfl
        try simp only [Act.put, List.getElem_toArray, List.getElem_cons_succ, List.getElem_cons_zero, List.setIfInBounds_toArray, List.set_cons_zero, List.set_cons_succ]
        refine wpAnyH_take (i := 2) (v := ?_) rfl (by kernel_rfl) (by kernel_rfl) (by kernel_rfl) (fun _ _ _ h => h) (Or.inl ⟨by rfl, ?_⟩) hHeld ?_
        rotate_left
        · intro wq hSw
          go_simp
          all_goals with_reducible rfl
        try simp only [Act.put, List.getElem_toArray, List.getElem_cons_succ, List.getElem_cons_zero, List.setIfInBounds_toArray, List.set_cons_zero, List.set_cons_succ]
        refine wpAnyH_take (i := 3) (v := ?_) rfl (by kernel_rfl) (by kernel_rfl) (by kernel_rfl) (fun _ _ _ h => h) (Or.inl ⟨by rfl, ?_⟩) hHeld ?_
        rotate_left
        · intro wq hSw
          go_simp
          all_goals with_reducible rfl
        try simp only [Act.put, List.getElem_toArray, List.getElem_cons_succ, List.getElem_cons_zero, List.setIfInBounds_toArray, List.set_cons_zero, List.set_cons_succ]
        refine wpAnyH_take (i := 4) (v := ?_) rfl (by kernel_rfl) (by kernel_rfl) (by kernel_rfl) (fun _ _ _ h => h) (Or.inl ⟨by rfl, ?_⟩) hHeld ?_
        rotate_left
        · intro wq hSw
          have q0 := hSw.1
          have q1 := hSw.2.1
          have q2 := hSw.2.2.1
          have q3 := hSw.2.2.2
          go_simp
          all_goals with_reducible rfl
        try simp only [Act.put, List.getElem_toArray, List.getElem_cons_succ, List.getElem_cons_zero, List.setIfInBounds_toArray, List.set_cons_zero, List.set_cons_succ]
        refine wpAnyH_take (i := 5) (v := ?_) rfl (by kernel_rfl) (by kernel_rfl) (by kernel_rfl) (fun _ _ _ h => h) (Or.inl ⟨by rfl, ?_⟩) hHeld ?_
        rotate_left
        · intro wq hSw
          go_simp
          all_goals with_reducible rfl
        try simp only [Act.put, List.getElem_toArray, List.getElem_cons_succ, List.getElem_cons_zero, List.setIfInBounds_toArray, List.set_cons_zero, List.set_cons_succ]
        refine wpAnyH_take (i := 6) (v := ?_) rfl (by kernel_rfl) (by kernel_rfl) (by kernel_rfl) (fun _ _ _ h => h) (Or.inl ⟨by rfl, ?_⟩) hHeld ?_
        rotate_left
        · intro wq hSw
          go_simp
          all_goals with_reducible rfl
        try simp only [Act.put, List.getElem_toArray, List.getElem_cons_succ, List.getElem_cons_zero, List.setIfInBounds_toArray, List.set_cons_zero, List.set_cons_succ]
        refine wpAnyH_take (i := 7) (v := ?_) rfl (by kernel_rfl) (by kernel_rfl) (by kernel_rfl) (fun _ _ _ h => h) (Or.inl ⟨by rfl, ?_⟩) hHeld ?_
        rotate_left
        · intro wq hSw
          have q0 := hSw.1
          have q1 := hSw.2.1
          have q2 := hSw.2.2.1
          have q3 := hSw.2.2.2
          go_simp
          all_goals with_reducible rfl
        try simp only [Act.put, List.getElem_toArray, List.getElem_cons_succ, List.getElem_cons_zero, List.setIfInBounds_toArray, List.set_cons_zero, List.set_cons_succ]
        refine wpAnyH_take (i := 8) (v := ?_) rfl (by kernel_rfl) (by kernel_rfl) (by kernel_rfl) (fun _ _ _ h => h) (Or.inl ⟨by rfl, ?_⟩) hHeld ?_
        rotate_left
        · intro wq hSw
          go_simp
          all_goals with_reducible rfl
        try simp only [Act.put, List.getElem_toArray, List.getElem_cons_succ, List.getElem_cons_zero, List.setIfInBounds_toArray, List.set_cons_zero, List.set_cons_succ]
        refine wpAnyH_take (i := 10) (v := ?_) rfl (by kernel_rfl) (by kernel_rfl) (by kernel_rfl) (fun _ _ _ h => h) (Or.inl ⟨by rfl, ?_⟩) hHeld ?_
        rotate_left
        · intro wq hSw
          go_simp
          all_goals with_reducible rfl
        try simp only [Act.put, List.getElem_toArray, List.getElem_cons_succ, List.getElem_cons_zero, List.setIfInBounds_toArray, List.set_cons_zero, List.set_cons_succ]
        refine wpAnyH_ready (rs := [0, 9]) (by kernel_rfl) (by simp) ?_
        refine AllReadyH.cons rfl (fun K hK => ?_) (AllReadyH.cons rfl (fun K hK => ?_) AllReadyH.nil)
        · go_simp
          refine hK.out _ _ ⟨y2, y3, y4, cx⟩ (fun hHeld => ?_)
          clear hK K
          try simp only [Act.put, List.getElem_toArray, List.getElem_cons_succ, List.getElem_cons_zero, List.setIfInBounds_toArray, List.set_cons_zero, List.set_cons_succ]
          refine wpAnyH_ready (rs := [9]) (by kernel_rfl) (by simp) ?_
          refine AllReadyH.cons rfl (fun K hK => ?_) AllReadyH.nil
          go_simp
          refine hK.out _ _ ⟨y2, y3, y4, cx⟩ (fun hHeld => ?_)
          clear hK K
          try simp only [Act.put, List.getElem_toArray, List.getElem_cons_succ, List.getElem_cons_zero, List.setIfInBounds_toArray, List.set_cons_zero, List.set_cons_succ]
          refine wpAnyH_take (i := 11) (v := ?_) rfl (by kernel_rfl) (by kernel_rfl) (by kernel_rfl) (fun _ _ _ h => h) (Or.inl ⟨by rfl, ?_⟩) hHeld ?_
          rotate_left
          · intro wq hSw
            go_simp
            all_goals with_reducible rfl
          try simp only [Act.put, List.getElem_toArray, List.getElem_cons_succ, List.getElem_cons_zero, List.setIfInBounds_toArray, List.set_cons_zero, List.set_cons_succ]
          refine wpAnyH_take (i := 12) (v := ?_) rfl (by kernel_rfl) (by kernel_rfl) (by kernel_rfl) (fun _ _ _ h => h) (Or.inl ⟨by rfl, ?_⟩) hHeld ?_
          rotate_left
          · intro wq hSw
            have q0 := hSw.1
            have q1 := hSw.2.1
            have q2 := hSw.2.2.1
            have q3 := hSw.2.2.2
            go_simp
            all_goals with_reducible rfl
          try simp only [Act.put, List.getElem_toArray, List.getElem_cons_succ, List.getElem_cons_zero, List.setIfInBounds_toArray, List.set_cons_zero, List.set_cons_succ]
          refine wpAnyH_ready (rs := [13]) (by kernel_rfl) (by simp) ?_
          refine AllReadyH.cons rfl (fun K hK => ?_) AllReadyH.nil
          go_simp
          refine (rpplus_any pn tn v ⟨⟨some ⟨bx, ox, none⟩, pn, pc, px⟩, ⟨tA, tn, tc, tx⟩⟩ ⟨⟨rA, pn, rc, rx⟩, ⟨sA, tn, sc, sx⟩⟩ wr.drew ⟨HP.out.1.keep (Nat.le_refl _) (Keep.refl wr).drew, HP.out.2.1.keep (Nat.le_refl _) (Keep.refl wr).drew, rfl, rfl⟩ ⟨(HP.out.2.2.1.keep HI.out.keep.size (Keep.refl wr).drew).mono HI.out.keep.size, (HP.out.2.2.2.keep HI.out.keep.size (Keep.refl wr).drew).mono HI.out.keep.size, rfl, rfl⟩ hg hs HV.out.1).mono ?_
          rintro e w4 ⟨⟨⟨A5, n5, c5, x5⟩, ⟨A6, n6, c6, x6⟩⟩, he, hC⟩
          replace he : e = .returned (.agg #[.slice A5 n5 c5, .slice A6 n6 c6]) := he
          subst he
          have HC := Lib.hid hC
          have K4 : Hid (Keep wr w4) := (Keep.drew (Keep.refl wr)).trans hC.keep
          have y2' := (K4.out.cell (p := ⟨b, 3, none⟩) HLL.out.2.1).trans y2
          have y3' := (K4.out.cell (p := ⟨br, k * 2, none⟩) HLL.out.2.2.1).trans y3
          have y4' := (K4.out.cell (p := ⟨br, k * 2 + 1, none⟩) HLL.out.2.2.1).trans y4
          have cx' := (K4.out.cell (p := ⟨bx, ox + k, none⟩) HLL.out.2.2.2.1).trans cx
          clear hC
          refine hK.out _ _ ⟨y2', y3', y4', cx'⟩ (fun hHeld => ?_)
          clear hK K
          try simp only [Act.put, List.getElem_toArray, List.getElem_cons_succ, List.getElem_cons_zero, List.setIfInBounds_toArray, List.set_cons_zero, List.set_cons_succ]
          have H4 := Lib.hid (HI.out.later K4.out)
          have z0 : w4.cell? ⟨q, 0, none⟩ = some (.slice (some ⟨bx, ox, none⟩) pn pc) := cell_of_row _ _ _ _ _ _ H4.out.row
          have z1 : w4.cell? ⟨q, 1, none⟩ = some (.slice tA tn tc) := cell_of_row _ _ _ _ _ _ H4.out.row
          have f0 : w4.frozen? ⟨q, 0, none⟩ = false := by simp [World.frozen?, H4.out.row]
          have f1 : w4.frozen? ⟨q, 1, none⟩ = false := by simp [World.frozen?, H4.out.row]
          refine wpAnyH_ready (rs := [14]) (by kernel_rfl) (by simp) ?_
          refine AllReadyH.cons rfl (fun K hK => ?_) AllReadyH.nil
          go_simp
          have T6 : Turned (fun b => b = q) w4 ((w4.setCell ⟨q, 0, none⟩ (.slice A5 n5 c5)).setCell ⟨q, 1, none⟩ (.slice A6 n6 c6)) :=
            (Turned.set (F := fun b => b = q) w4 ⟨q, 0, none⟩ (.slice A5 n5 c5) rfl).trans (Turned.set (F := fun b => b = q) _ ⟨q, 1, none⟩ (.slice A6 n6 c6) rfl) fun _ e => Or.inl e
          have HBK := Lib.hid (bset (i := 1) (bset (i := 0) H4.out.row (.slice A5 n5 c5)) (.slice A6 n6 c6))
          have HT6 := Lib.hid T6
          have y2'' := T6.cell y2' (by have := HLL.out.2.2.2.2.2; show ¬ b = q; omega)
          have y3'' := T6.cell y3' (by have := HLL.out.2.2.2.2.1; show ¬ br = q; omega)
          have y4'' := T6.cell y4' (by have := HLL.out.2.2.2.2.1; show ¬ br = q; omega)
          have cx'' := T6.cell cx' HBXQ.out
          clear T6
          refine hK.out _ _ ⟨y2'', y3'', y4'', cx''⟩ (fun hHeld => ?_)
          clear hK K
          try simp only [Act.put, List.getElem_toArray, List.getElem_cons_succ, List.getElem_cons_zero, List.setIfInBounds_toArray, List.set_cons_zero, List.set_cons_succ]
          refine wpAnyH_done (by kernel_rfl) ?_ _
          refine NoPanic.normal ?_
          clear hHeld
          clear y2'' y3'' y4'' cx'' y2' y3' y4' cx' z0 z1 f0 f1 y0 y1 y2 y3 y4 cx
          go_wp2_with fail
          go_roundw
          case rel => exact ⟨k + 1, ⟨⟨A5, n5, c5, x5⟩, ⟨A6, n6, c6, x6⟩⟩, by have := HLT.out; omega, by go_num, H4.out.put (p' := ⟨⟨A5, n5, c5, x5⟩, ⟨A6, n6, c6, x6⟩⟩) (fun k hk => HG.out k hk) HBK.out HT6.out HC.out (by have := HI.out.res; exact (Array.getElem?_eq_some_iff.1 this).1) (by
            rw [show x5 = _ from HC.out.ax, show x6 = _ from HC.out.bx]
            exact pair_cut (p := ⟨⟨rA, pn, rc, rx⟩, ⟨sA, tn, sc, sx⟩⟩) HP.out.1.length HI.out.xs HST.out.2.1 (by rw [HST.out.1, HV.out.2]))⟩
          case measure => have := HLT.out; simp [intOf]; omega
        · go_simp
          refine hK.out _ _ ⟨y2, y3, y4, cx⟩ (fun hHeld => ?_)
          clear hK K
          try simp only [Act.put, List.getElem_toArray, List.getElem_cons_succ, List.getElem_cons_zero, List.setIfInBounds_toArray, List.set_cons_zero, List.set_cons_succ]
          refine wpAnyH_take (i := 11) (v := ?_) rfl (by kernel_rfl) (by kernel_rfl) (by kernel_rfl) (fun _ _ _ h => h) (Or.inl ⟨by rfl, ?_⟩) hHeld ?_
          rotate_left
          · intro wq hSw
            go_simp
            all_goals with_reducible rfl
          try simp only [Act.put, List.getElem_toArray, List.getElem_cons_succ, List.getElem_cons_zero, List.setIfInBounds_toArray, List.set_cons_zero, List.set_cons_succ]
          refine wpAnyH_take (i := 12) (v := ?_) rfl (by kernel_rfl) (by kernel_rfl) (by kernel_rfl) (fun _ _ _ h => h) (Or.inl ⟨by rfl, ?_⟩) hHeld ?_
          rotate_left
          · intro wq hSw
            have q0 := hSw.1
            have q1 := hSw.2.1
            have q2 := hSw.2.2.1
            have q3 := hSw.2.2.2
            go_simp
            all_goals with_reducible rfl
          try simp only [Act.put, List.getElem_toArray, List.getElem_cons_succ, List.getElem_cons_zero, List.setIfInBounds_toArray, List.set_cons_zero, List.set_cons_succ]
          refine wpAnyH_ready (rs := [0]) (by kernel_rfl) (by simp) ?_
          refine AllReadyH.cons rfl (fun K hK => ?_) AllReadyH.nil
          go_simp
          refine hK.out _ _ ⟨y2, y3, y4, cx⟩ (fun hHeld => ?_)
          clear hK K
          try simp only [Act.put, List.getElem_toArray, List.getElem_cons_succ, List.getElem_cons_zero, List.setIfInBounds_toArray, List.set_cons_zero, List.set_cons_succ]
          refine wpAnyH_ready (rs := [13]) (by kernel_rfl) (by simp) ?_
          refine AllReadyH.cons rfl (fun K hK => ?_) AllReadyH.nil
          go_simp
          refine (rpplus_any pn tn v ⟨⟨some ⟨bx, ox, none⟩, pn, pc, px⟩, ⟨tA, tn, tc, tx⟩⟩ ⟨⟨rA, pn, rc, rx⟩, ⟨sA, tn, sc, sx⟩⟩ wr.drew ⟨HP.out.1.keep (Nat.le_refl _) (Keep.refl wr).drew, HP.out.2.1.keep (Nat.le_refl _) (Keep.refl wr).drew, rfl, rfl⟩ ⟨(HP.out.2.2.1.keep HI.out.keep.size (Keep.refl wr).drew).mono HI.out.keep.size, (HP.out.2.2.2.keep HI.out.keep.size (Keep.refl wr).drew).mono HI.out.keep.size, rfl, rfl⟩ hg hs HV.out.1).mono ?_
          rintro e w4 ⟨⟨⟨A5, n5, c5, x5⟩, ⟨A6, n6, c6, x6⟩⟩, he, hC⟩
          replace he : e = .returned (.agg #[.slice A5 n5 c5, .slice A6 n6 c6]) := he
          subst he
          have HC := Lib.hid hC
          have K4 : Hid (Keep wr w4) := (Keep.drew (Keep.refl wr)).trans hC.keep
          have y2' := (K4.out.cell (p := ⟨b, 3, none⟩) HLL.out.2.1).trans y2
          have y3' := (K4.out.cell (p := ⟨br, k * 2, none⟩) HLL.out.2.2.1).trans y3
          have y4' := (K4.out.cell (p := ⟨br, k * 2 + 1, none⟩) HLL.out.2.2.1).trans y4
          have cx' := (K4.out.cell (p := ⟨bx, ox + k, none⟩) HLL.out.2.2.2.1).trans cx
          clear hC
          refine hK.out _ _ ⟨y2', y3', y4', cx'⟩ (fun hHeld => ?_)
          clear hK K
          try simp only [Act.put, List.getElem_toArray, List.getElem_cons_succ, List.getElem_cons_zero, List.setIfInBounds_toArray, List.set_cons_zero, List.set_cons_succ]
          have H4 := Lib.hid (HI.out.later K4.out)
          have z0 : w4.cell? ⟨q, 0, none⟩ = some (.slice (some ⟨bx, ox, none⟩) pn pc) := cell_of_row _ _ _ _ _ _ H4.out.row
          have z1 : w4.cell? ⟨q, 1, none⟩ = some (.slice tA tn tc) := cell_of_row _ _ _ _ _ _ H4.out.row
          have f0 : w4.frozen? ⟨q, 0, none⟩ = false := by simp [World.frozen?, H4.out.row]
          have f1 : w4.frozen? ⟨q, 1, none⟩ = false := by simp [World.frozen?, H4.out.row]
          refine wpAnyH_ready (rs := [14]) (by kernel_rfl) (by simp) ?_
          refine AllReadyH.cons rfl (fun K hK => ?_) AllReadyH.nil
          go_simp
          have T6 : Turned (fun b => b = q) w4 ((w4.setCell ⟨q, 0, none⟩ (.slice A5 n5 c5)).setCell ⟨q, 1, none⟩ (.slice A6 n6 c6)) :=
            (Turned.set (F := fun b => b = q) w4 ⟨q, 0, none⟩ (.slice A5 n5 c5) rfl).trans (Turned.set (F := fun b => b = q) _ ⟨q, 1, none⟩ (.slice A6 n6 c6) rfl) fun _ e => Or.inl e
          have HBK := Lib.hid (bset (i := 1) (bset (i := 0) H4.out.row (.slice A5 n5 c5)) (.slice A6 n6 c6))
          have HT6 := Lib.hid T6
          have y2'' := T6.cell y2' (by have := HLL.out.2.2.2.2.2; show ¬ b = q; omega)
          have y3'' := T6.cell y3' (by have := HLL.out.2.2.2.2.1; show ¬ br = q; omega)
          have y4'' := T6.cell y4' (by have := HLL.out.2.2.2.2.1; show ¬ br = q; omega)
          have cx'' := T6.cell cx' HBXQ.out
          clear T6
          refine hK.out _ _ ⟨y2'', y3'', y4'', cx''⟩ (fun hHeld => ?_)
          clear hK K
          try simp only [Act.put, List.getElem_toArray, List.getElem_cons_succ, List.getElem_cons_zero, List.setIfInBounds_toArray, List.set_cons_zero, List.set_cons_succ]
          refine wpAnyH_done (by kernel_rfl) ?_ _
          refine NoPanic.normal ?_
          clear hHeld
          clear y2'' y3'' y4'' cx'' y2' y3' y4' cx' z0 z1 f0 f1 y0 y1 y2 y3 y4 cx
          go_wp2_with fail
          go_roundw
          case rel => exact ⟨k + 1, ⟨⟨A5, n5, c5, x5⟩, ⟨A6, n6, c6, x6⟩⟩, by have := HLT.out; omega, by go_num, H4.out.put (p' := ⟨⟨A5, n5, c5, x5⟩, ⟨A6, n6, c6, x6⟩⟩) (fun k hk => HG.out k hk) HBK.out HT6.out HC.out (by have := HI.out.res; exact (Array.getElem?_eq_some_iff.1 this).1) (by
            rw [show x5 = _ from HC.out.ax, show x6 = _ from HC.out.bx]
            exact pair_cut (p := ⟨⟨rA, pn, rc, rx⟩, ⟨sA, tn, sc, sx⟩⟩) HP.out.1.length HI.out.xs HST.out.2.1 (by rw [HST.out.1, HV.out.2]))⟩
          case measure => have := HLT.out; simp [intOf]; omega
    · obtain rfl : k = n1 := by omega
      obtain ⟨⟨pA, pn, pc, px⟩, ⟨tA, tn, tc, tx⟩⟩ := p
      obtain rfl : pn = k := HI.out.an
      obtain rfl : tn = n2 := HI.out.bn
      have y0 : wr.cell? ⟨q, 0, none⟩ = some (.slice pA pn pc) := cell_of_row _ _ _ _ _ _ HI.out.row
      have y1 : wr.cell? ⟨q, 1, none⟩ = some (.slice tA tn tc) := cell_of_row _ _ _ _ _ _ HI.out.row
      have z0 : wr.cell? ⟨q + 1, 0, none⟩ = some (.slice none 0 0) := cell_of_row _ _ _ _ _ _ HI.out.res
      have z1 : wr.cell? ⟨q + 1, 1, none⟩ = some (.slice none 0 0) := cell_of_row _ _ _ _ _ _ HI.out.res
      have f0 : wr.frozen? ⟨q + 1, 0, none⟩ = false := by simp [World.frozen?, HI.out.res]
      have f1 : wr.frozen? ⟨q + 1, 1, none⟩ = false := by simp [World.frozen?, HI.out.res]
      go_wp2_with fail
      have T6 : Turned (fun b => b = q + 1) wr ((wr.setCell ⟨q + 1, 0, none⟩ (.slice pA pn pc)).setCell ⟨q + 1, 1, none⟩ (.slice tA tn tc)) :=
        (Turned.set (F := fun b => b = q + 1) wr ⟨q + 1, 0, none⟩ (.slice pA pn pc) rfl).trans (Turned.set (F := fun b => b = q + 1) _ ⟨q + 1, 1, none⟩ (.slice tA tn tc) rfl) fun _ e => Or.inl e
      have hb := bset (i := 1) (bset (i := 0) HI.out.res (.slice pA pn pc)) (.slice tA tn tc)
      have hd : ∀ b, (G b ∨ (q + 2 ≤ b ∧ b < wr.heap.size)) → ¬ b = q + 1 := fun b hb => by
        rcases hb with e | e
        · have := HG.out b e; omega
        · omega
      have hm : ∀ b, (G b ∨ (q + 2 ≤ b ∧ b < wr.heap.size)) → (G b ∨ (w.heap.size ≤ b ∧ b < ((wr.setCell ⟨q + 1, 0, none⟩ (.slice pA pn pc)).setCell ⟨q + 1, 1, none⟩ (.slice tA tn tc)).heap.size)) := fun b hb => hb.imp id fun e => ⟨by rw [HQ.out]; omega, Nat.lt_of_lt_of_le e.2 T6.size⟩
      refine bodyPost_ret (v := .agg #[.slice pA pn pc, .slice tA tn tc]) ?_ rfl ⟨⟨⟨pA, pn, pc, px⟩, ⟨tA, tn, tc, tx⟩⟩, rfl, rfl, rfl, ⟨(HI.out.a.turned T6 hd).mono hm, (HI.out.b.turned T6 hd).mono hm⟩, ?_, T6.keep HI.out.keep fun i e => by rw [e, HQ.out]; omega⟩
      · exact results_cell_row (p := 4) (ty := 34) rfl _ _ (q + 1) 34 _ (0, 0) _ rfl hb Tryz.underlying34 rfl infoRowSize
      · have e := HI.out.xs
        rw [HS.out.cnt_all] at e
        exact e
end Go.Proofs.YtcjjhblgejkkeaaGreat
/- The document's own basis: Insert. -/
namespace Go.Proofs.YtcjjhblgejkkeaaGreat
open Go.RowKit Lin
set_option linter.unusedVariables false
set_option linter.unusedSimpArgs false
section
variable {w : World} {F RF : Nat → Prop} {b g s bi br k : Nat} {iv : List Bool} {R : List PairV} {p' : PairV}
theorem RefR.setRow (h : RefR w F b g s bi br iv R) (hk : k < g) (hl : LiesIn w RF p'.a ∧ LiesIn w RF p'.b) (hsz : p'.a.n = g ∧ p'.b.n = s) (hRF : ∀ x, RF x → x < w.heap.size ∧ ¬ F x) :
    RefR ((w.setCell ⟨br, k * 2, none⟩ p'.a.val).setCell ⟨br, k * 2 + 1, none⟩ p'.b.val) (fun x => F x ∨ RF x) b g s bi br iv (R.set k p') ∧ Turned (fun x => x = br) w ((w.setCell ⟨br, k * 2, none⟩ p'.a.val).setCell ⟨br, k * 2 + 1, none⟩ p'.b.val) := by
  have T : Turned (fun x => x = br) w ((w.setCell ⟨br, k * 2, none⟩ p'.a.val).setCell ⟨br, k * 2 + 1, none⟩ p'.b.val) :=
    (Turned.set (F := fun b => b = br) w ⟨br, k * 2, none⟩ p'.a.val rfl).trans (Turned.set (F := fun b => b = br) _ ⟨br, k * 2 + 1, none⟩ p'.b.val rfl) fun _ e => Or.inl e
  refine ⟨⟨fun x hx => ?_, Or.inl h.fb, Or.inl h.fi, Or.inl h.fr, h.ne, (T.block b (h.lt b h.fb) h.ne.2.1).trans h.block, (T.block bi (h.lt bi h.fi) h.ne.2.2).trans h.bools, h.st.set k p', h.li, by rw [List.length_set, h.lr], fun i p hx hp => ?_⟩, T⟩
  · rcases hx with e | e
    · exact Nat.lt_of_lt_of_le (h.lt x e) T.size
    · exact Nat.lt_of_lt_of_le (hRF x e).1 T.size
  · by_cases e : i = k
    · subst e
      rw [List.getElem?_set_self (by rw [h.lr]; exact hk)] at hp
      injection hp with hp
      subst hp
      have hn : ∀ x, RF x → ¬ x = br := fun x hx e => (hRF x hx).2 (e ▸ h.fr)
      have hm : ∀ x, RF x → (F x ∨ RF x) ∧ x ≠ b ∧ x ≠ bi ∧ x ≠ br := fun x hx => ⟨Or.inr hx, fun e => (hRF x hx).2 (e ▸ h.fb), fun e => (hRF x hx).2 (e ▸ h.fi), hn x hx⟩
      exact ⟨⟨(hl.1.turned T hn).mono hm, (hl.2.turned T hn).mono hm⟩, hsz⟩
    · rw [List.getElem?_set_ne (fun e2 => e e2.symm)] at hp
      obtain ⟨⟨a, c⟩, z⟩ := h.rows i p hx hp
      have hm : ∀ x, (F x ∧ x ≠ b ∧ x ≠ bi ∧ x ≠ br) → ((F x ∨ RF x) ∧ x ≠ b ∧ x ≠ bi ∧ x ≠ br) := fun x hx => ⟨Or.inl hx.1, hx.2⟩
      exact ⟨⟨(a.turned T fun x hx => hx.2.2.2).mono hm, (c.turned T fun x hx => hx.2.2.2).mono hm⟩, z⟩
/-- A place is taken. -/
theorem RefR.setBoth (h : RefR w F b g s bi br iv R) (hk : k < g) (hl : LiesIn w RF p'.a ∧ LiesIn w RF p'.b) (hsz : p'.a.n = g ∧ p'.b.n = s) (hRF : ∀ x, RF x → x < w.heap.size ∧ ¬ F x) :
    RefR (((w.setCell ⟨bi, k, none⟩ (.bool true)).setCell ⟨br, k * 2, none⟩ p'.a.val).setCell ⟨br, k * 2 + 1, none⟩ p'.b.val) (fun x => F x ∨ RF x) b g s bi br (iv.set k true) (R.set k p') ∧ Turned F w (((w.setCell ⟨bi, k, none⟩ (.bool true)).setCell ⟨br, k * 2, none⟩ p'.a.val).setCell ⟨br, k * 2 + 1, none⟩ p'.b.val) := by
  have T1 : Turned (fun x => x = bi) w (w.setCell ⟨bi, k, none⟩ (.bool true)) := Turned.set (F := fun b => b = bi) w ⟨bi, k, none⟩ _ rfl
  have T2 : Turned (fun x => x = br) (w.setCell ⟨bi, k, none⟩ (.bool true)) (((w.setCell ⟨bi, k, none⟩ (.bool true)).setCell ⟨br, k * 2, none⟩ p'.a.val).setCell ⟨br, k * 2 + 1, none⟩ p'.b.val) :=
    (Turned.set (F := fun b => b = br) _ ⟨br, k * 2, none⟩ p'.a.val rfl).trans (Turned.set (F := fun b => b = br) _ ⟨br, k * 2 + 1, none⟩ p'.b.val rfl) fun _ e => Or.inl e
  have T : Turned (fun x => x = bi ∨ x = br) w (((w.setCell ⟨bi, k, none⟩ (.bool true)).setCell ⟨br, k * 2, none⟩ p'.a.val).setCell ⟨br, k * 2 + 1, none⟩ p'.b.val) :=
    (T1.mono fun x _ e => Or.inl e).trans T2 fun x e => Or.inl (Or.inr e)
  have hbs : (w.setCell ⟨bi, k, none⟩ (.bool true)).heap[bi]? = some (.cells ((iv.set k true).map Value.bool).toArray 4 (0, 0)) := by
    rw [heap_setCell_same w bi k _ _ (.bool true) h.bools]
    simp
  refine ⟨⟨fun x hx => ?_, Or.inl h.fb, Or.inl h.fi, Or.inl h.fr, h.ne, (T.block b (h.lt b h.fb) (by rintro (e | e); exact h.ne.1 e; exact h.ne.2.1 e)).trans h.block, (T2.block bi (Nat.lt_of_lt_of_le (h.lt bi h.fi) T1.size) h.ne.2.2).trans hbs, (h.st.turned T1 (fun e => h.ne.2.2 e.symm)).set k p', by rw [List.length_set, h.li], by rw [List.length_set, h.lr], fun i p hx hp => ?_⟩, T.mono fun x _ e => by rcases e with e | e <;> subst e; exact h.fi; exact h.fr⟩
  · rcases hx with e | e
    · exact Nat.lt_of_lt_of_le (h.lt x e) T.size
    · exact Nat.lt_of_lt_of_le (hRF x e).1 T.size
  · by_cases e : i = k
    · subst e
      rw [List.getElem?_set_self (by rw [h.lr]; exact hk)] at hp
      injection hp with hp
      subst hp
      have hn : ∀ x, RF x → ¬ (x = bi ∨ x = br) := fun x hx e => (hRF x hx).2 (by rcases e with e | e <;> subst e; exact h.fi; exact h.fr)
      have hm : ∀ x, RF x → (F x ∨ RF x) ∧ x ≠ b ∧ x ≠ bi ∧ x ≠ br := fun x hx => ⟨Or.inr hx, fun e => (hRF x hx).2 (e ▸ h.fb), fun e => (hRF x hx).2 (e ▸ h.fi), fun e => (hRF x hx).2 (e ▸ h.fr)⟩
      exact ⟨⟨(hl.1.turned T hn).mono hm, (hl.2.turned T hn).mono hm⟩, hsz⟩
    · rw [List.getElem?_set_ne (fun e2 => e e2.symm)] at hp hx
      obtain ⟨⟨a, c⟩, z⟩ := h.rows i p hx hp
      have hm : ∀ x, (F x ∧ x ≠ b ∧ x ≠ bi ∧ x ≠ br) → ((F x ∨ RF x) ∧ x ≠ b ∧ x ≠ bi ∧ x ≠ br) := fun x hx => ⟨Or.inl hx.1, hx.2⟩
      have hn : ∀ x, (F x ∧ x ≠ b ∧ x ≠ bi ∧ x ≠ br) → ¬ (x = bi ∨ x = br) := fun x hx e => by
        rcases e with e | e
        · exact hx.2.2.1 e
        · exact hx.2.2.2 e
      exact ⟨⟨(a.turned T hn).mono hm, (c.turned T hn).mono hm⟩, z⟩
end
theorem addS_nought (n : Nat) (ys : List Nat) (c : Nat) : vAddS n (List.replicate n 0) ys c = vScale n ys c := tab_congr fun j hj => by
  rw [List.getD_eq_getElem?_getD, List.getElem?_replicate, if_pos hj]; exact Nat.zero_xor _
/-- Rows being cleared. -/
structure InsI (w wr : World) (F : Nat → Prop) (b g s bi br q k L : Nat) (iv : List Bool) (R Rk : List PairV) (r : PairV) (lo hi : Nat) : Prop where
  ref : ∃ Fk, RefR wr Fk b g s bi br iv Rk ∧ ∀ x, Fk x → F x ∨ hi ≤ x
  row : wr.heap[q]? = some (.cells #[r.a.val, r.b.val] 34 (0, 0))
  ra : LiesIn wr (fun x => lo ≤ x ∧ x < hi) r.a
  rb : LiesIn wr (fun x => lo ≤ x ∧ x < hi) r.b
  done : ∀ (i : Nat) (p p' : PairV), i < k → iv[i]? = some true → R[i]? = some p → Rk[i]? = some p' → p'.xs = vAddS (g + s) p.xs r.xs (p.xs.getD L 0) ∧ p'.a.xs.length = g ∧ p'.b.xs.length = s
  rest : ∀ i, k ≤ i → Rk[i]? = R[i]?
  turn : Turned F w wr
  lim : hi ≤ wr.heap.size
  qhi : q < hi
section
variable {w wr w4 w5 : World} {F Fk : Nat → Prop} {b g s bi br q k L lo hi : Nat} {iv : List Bool} {R Rk : List PairV} {r p p' : PairV}
theorem InsI.skip (h : InsI w wr F b g s bi br q k L iv R Rk r lo hi) (hx : iv[k]? = some false) : InsI w wr F b g s bi br q (k + 1) L iv R Rk r lo hi :=
  ⟨h.ref, h.row, h.ra, h.rb, fun i p p' hi h1 h2 h3 => by
    by_cases e : i = k
    · subst e; rw [hx] at h1; cases h1
    · exact h.done i p p' (by omega) h1 h2 h3, fun i hi => h.rest i (by omega), h.turn, h.lim, h.qhi⟩
theorem InsI.put (h : InsI w wr F b g s bi br q k L iv R Rk r lo hi) (hk : k < g) (hR : RefR w F b g s bi br iv R) (hq : w.heap.size = q) (hx : iv[k]? = some true) (hp : R[k]? = some p) (hlo : w.heap.size ≤ lo ∧ lo ≤ hi) (hRk : RefR wr Fk b g s bi br iv Rk) (hFk : ∀ x, Fk x → F x ∨ hi ≤ x)
    (hr : RefR w5 (fun x => Fk x ∨ (wr.heap.size ≤ x ∧ x < w4.heap.size)) b g s bi br iv (Rk.set k p')) (t : Turned (fun x => x = br) w4 w5) (k4 : Keep wr w4) (hv : p'.a.xs ++ p'.b.xs = vAddS (g + s) p.xs r.xs (p.xs.getD L 0)) (h1 : p'.a.xs.length = g) (h2 : p'.b.xs.length = s) :
    InsI w w5 F b g s bi br q (k + 1) L iv R (Rk.set k p') r lo hi := by
  have hbr : br < w.heap.size := hR.lt br hR.fr
  have T : Turned (fun x => x = br) wr w5 := (Turned.of_keep (F := fun x => x = br) k4).trans t fun _ e => Or.inl e
  refine ⟨⟨_, hr, fun x hx => ?_⟩, (T.block q (Array.getElem?_eq_some_iff.1 h.row).1 (by omega)).trans h.row, h.ra.turned T fun x hx => by omega, h.rb.turned T fun x hx => by omega, fun i a c hi ha hb hc => ?_, fun i hi => ?_, h.turn.trans T fun x e => Or.inl (e ▸ hR.fr), Nat.le_trans h.lim T.size, h.qhi⟩
  · rcases hx with e | e
    · exact hFk x e
    · exact Or.inr (Nat.le_trans h.lim e.1)
  · by_cases e : i = k
    · subst e
      rw [List.getElem?_set_self (by rw [hRk.lr]; exact hk)] at hc
      injection hc with hc
      subst hc
      rw [hp] at hb
      injection hb with hb
      subst hb
      exact ⟨hv, h1, h2⟩
    · rw [List.getElem?_set_ne (fun e2 => e e2.symm)] at hc
      exact h.done i a c (by omega) ha hb hc
  · rw [List.getElem?_set_ne (by omega)]
    exact h.rest i (by omega)
theorem pair_sum {rx x7 sx x8 : List Nat} {L : Nat} (h1 : rx.length = g) (h2 : x7.length = g) (hL : L < g) : vAddS g rx x7 (rx.getD L 0) ++ vAddS s sx x8 (rx.getD L 0) = vAddS (g + s) (rx ++ sx) (x7 ++ x8) ((rx ++ sx).getD L 0) := by
  have e : (rx ++ sx).getD L 0 = rx.getD L 0 := by rw [List.getD_eq_getElem?_getD, List.getElem?_append_left (by omega), ← List.getD_eq_getElem?_getD]
  have t := vAddS_take g s (rx ++ sx) (x7 ++ x8) (rx.getD L 0)
  have d := vAddS_drop g s (rx ++ sx) (x7 ++ x8) (rx.getD L 0)
  rw [List.take_left' h1, List.take_left' h2] at t
  rw [List.drop_left' h1, List.drop_left' h2] at d
  rw [e, ← List.take_append_drop g (vAddS (g + s) (rx ++ sx) (x7 ++ x8) (rx.getD L 0)), t, d]
end
section
variable {w : World} {F G : Nat → Prop} {b g s bi br : Nat} {iv : List Bool} {R : List PairV} {B : List (List Nat)}
set_option maxRecDepth 100000 in
set_option maxHeartbeats 8000000 in
theorem rpinsert_in (h : RefR w F b g s bi br iv R) (hS : Slots g s iv R B) (hB : Bas g s B) (p : PairV) (hp : LiesIn w G p.a ∧ LiesIn w G p.b ∧ p.a.n = g ∧ p.b.n = s) (hG : ∀ k, G k → k < w.heap.size) (hg1 : 1 ≤ g) (hg : g ≤ 255) (hs : s ≤ 65535) :
    Calls Tryz.prog 51 #[.pointer (some ⟨b, 0, none⟩), p.agg] w fun e w' => e = .returned (.tuple #[.bool (!decide (inB g s B p.xs)), .int .i64 0]) ∧ ∃ F' iv' R', RefR w' F' b g s bi br iv' R' ∧ Slots g s iv' R' (insB g s B p.xs) ∧ (∀ k, F' k → F k ∨ w.heap.size ≤ k) ∧ Turned F w w' := by
  obtain ⟨⟨A1, n1, c1, x1⟩, ⟨A2, n2, c2, x2⟩⟩ := p
  obtain ⟨p1, p2, p3, p4⟩ := hp
  simp only at p3 p4
  obtain rfl : n1 = g := p3
  obtain rfl : n2 = s := p4
  have hrow : (x1 ++ x2).length = n1 + n2 ∧ AllB (x1 ++ x2) := ⟨by rw [List.length_append, show x1.length = n1 from p1.1, show x2.length = n2 from p2.1], p1.2.1.append p2.2.1⟩
  show Calls _ _ #[_, .agg #[.slice A1 n1 c1, .slice A2 n2 c2]] _ fun e w' => e = .returned (.tuple #[.bool (!decide (inB n1 n2 B (x1 ++ x2))), .int .i64 0]) ∧ ∃ F' iv' R', RefR w' F' b n1 n2 bi br iv' R' ∧ Slots n1 n2 iv' R' (insB n1 n2 B (x1 ++ x2)) ∧ (∀ k, F' k → F k ∨ w.heap.size ≤ k) ∧ Turned F w w'
  obtain ⟨⟨q, hq⟩⟩ : Nonempty (∃ q, w.heap.size = q) := ⟨_, rfl⟩
  have K0 : Hid (Keep w (w.alloc (.cells #[.slice A1 n1 c1, .slice A2 n2 c2] 34))) := (Keep.refl w).alloc _ _
  have HW : Hid ((w.alloc (.cells #[.slice A1 n1 c1, .slice A2 n2 c2] 34)).heap[q]? = some (.cells #[.slice A1 n1 c1, .slice A2 n2 c2] 34 (0, 0))) := by
    show _ = _
    rw [← hq]; exact heap_alloc_new _ _
  have HW1 : Hid ((w.alloc (.cells #[.slice A1 n1 c1, .slice A2 n2 c2] 34)).heap.size = q + 1) := by show _ = _; rw [← hq]; simp
  have H := Lib.hid h
  have HS := Lib.hid (And.intro hS hB)
  have HP := Lib.hid (And.intro p1 p2)
  have HQ := Lib.hid hq
  have HG : Hid (∀ k, G k → k < q) := fun k hk => by rw [← hq]; exact hG k hk
  have HR := Lib.hid hrow
  have b0 : ((n1 : Int) != (n1 : Int)) = false := by simp
  have b1 : ((n2 : Int) != (n2 : Int)) = false := by simp
  have HBL := Lib.hid (h.lt b h.fb)
  clear h hS hB p1 p2 hG hrow
  go_enter Tryz.func51, Tryz.ntmps51
  go_upto_region 1 with fail
  clear hq
  generalize (w.alloc (.cells #[.slice A1 n1 c1, .slice A2 n2 c2] 34)) = w1 at *
  have d0 := (H.out.keep K0.out).c0
  have d1 := (H.out.keep K0.out).c1
  have u0 : w1.cell? ⟨q, 0, none⟩ = some (.slice A1 n1 c1) := cell_of_row _ _ _ _ _ _ HW.out
  have u1 : w1.cell? ⟨q, 1, none⟩ = some (.slice A2 n2 c2) := cell_of_row _ _ _ _ _ _ HW.out
  go_region
  go_wp2_with fail
  have K1 := Lib.hid K0.out.drew
  clear d0 d1 u0 u1
  refine (rpreduce_any (H.out.keep K1.out) HS.out.1 ⟨⟨A1, n1, c1, x1⟩, ⟨A2, n2, c2, x2⟩⟩ ⟨HP.out.1.turned (Turned.of_keep (F := fun _ => False) K1.out) fun _ _ e => e, HP.out.2.turned (Turned.of_keep (F := fun _ => False) K1.out) fun _ _ e => e, rfl, rfl⟩ (fun k hk => by have h1 := HG.out k hk; have h2 := HW1.out; show k < w1.heap.size; omega) hg hs).mono ?_
  rintro e w2 ⟨⟨⟨A3, n3, c3, x3⟩, ⟨A4, n4, c4, x4⟩⟩, he, z1, z2, ⟨l3, l4⟩, hx34, k2⟩
  simp only at z1 z2
  obtain rfl : n3 = n1 := z1
  obtain rfl : n4 = n2 := z2
  replace he : e = .returned (.agg #[.slice A3 n3 c3, .slice A4 n4 c4]) := he
  subst he
  have hx34 : x3 ++ x4 = leftB (n3 + n4) B (x1 ++ x2) := hx34
  have K2 := Lib.hid (K1.out.trans k2)
  have HW2 : Hid (w2.heap[q]? = some (.cells #[.slice A1 n3 c1, .slice A2 n4 c2] 34 (0, 0))) := (k2.block q (by show q < w1.heap.size; have := HW1.out; omega)).trans HW.out
  have HL2 := Lib.hid (And.intro l3 (And.intro l4 hx34))
  have t0 : w2.cell? ⟨q, 0, none⟩ = some (.slice A1 n3 c1) := cell_of_row _ _ _ _ _ _ HW2.out
  have t1 : w2.cell? ⟨q, 1, none⟩ = some (.slice A2 n4 c2) := cell_of_row _ _ _ _ _ _ HW2.out
  have f0 : w2.frozen? ⟨q, 0, none⟩ = false := by simp [World.frozen?, HW2.out]
  have f1 : w2.frozen? ⟨q, 1, none⟩ = false := by simp [World.frozen?, HW2.out]
  clear l3 l4 hx34 k2
  go_upto_region 4 with fail
  have T3 : Hid (Turned (fun x => x = q) w2 ((w2.setCell ⟨q, 0, none⟩ (.slice A3 n3 c3)).setCell ⟨q, 1, none⟩ (.slice A4 n4 c4))) :=
    (Turned.set (F := fun b => b = q) w2 ⟨q, 0, none⟩ (.slice A3 n3 c3) rfl).trans (Turned.set (F := fun b => b = q) _ ⟨q, 1, none⟩ (.slice A4 n4 c4) rfl) fun _ e => Or.inl e
  have HW3 := Lib.hid (bset (i := 1) (bset (i := 0) HW2.out (.slice A3 n3 c3)) (.slice A4 n4 c4))
  clear t0 t1 f0 f1
  change Hid (((w2.setCell ⟨q, 0, none⟩ (.slice A3 n3 c3)).setCell ⟨q, 1, none⟩ (.slice A4 n4 c4)).heap[q]? = some (.cells #[.slice A3 n3 c3, .slice A4 n4 c4] 34 (0, 0))) at HW3
  generalize ((w2.setCell ⟨q, 0, none⟩ (.slice A3 n3 c3)).setCell ⟨q, 1, none⟩ (.slice A4 n4 c4)) = w3 at *
  have K3 : Hid (Keep w w3) := T3.out.keep K2.out fun i e => by rw [e, HQ.out]; exact Nat.le_refl _
  have hd3 : ∀ x, (G x ∨ (w1.drew.heap.size ≤ x ∧ x < w2.heap.size)) → ¬ x = q := fun x hx => by
    rcases hx with e | e
    · have := HG.out x e; omega
    · have h1 := HW1.out
      have h2 : w1.heap.size ≤ x := e.1
      omega
  have hm3 : ∀ x, (G x ∨ (w1.drew.heap.size ≤ x ∧ x < w2.heap.size)) → x < w3.heap.size := fun x hx => by
    have h3 := T3.out.size
    rcases hx with e | e
    · have h1 := HG.out x e
      have h2 := K2.out.size
      have := HQ.out
      omega
    · omega
  have hb3 := (HL2.out.1.turned T3.out hd3).bytes (B := w3.heap.size) hm3
  have hb4 := (HL2.out.2.1.turned T3.out hd3).bytes (B := w3.heap.size) hm3
  have HB3 : Hid (Bytes w3 w3.heap.size A3 n3 x3 ∧ Bytes w3 w3.heap.size A4 n4 x4) := ⟨hb3, hb4⟩
  clear hd3 hm3 hb3 hb4
  have u0 : w3.cell? ⟨q, 0, none⟩ = some (.slice A3 n3 c3) := cell_of_row _ _ _ _ _ _ HW3.out
  have d0 := (H.out.keep K3.out).c0
  have HLD : Hid (vLead n3 x3 = vLead n3 (leftB (n3 + n4) B (x1 ++ x2)) ∧ ∀ j, j < n3 → x3.getD j 0 = (leftB (n3 + n4) B (x1 ++ x2)).getD j 0) := by
    have e : x3 = (leftB (n3 + n4) B (x1 ++ x2)).take n3 := by rw [← HL2.out.2.2, List.take_left' HB3.out.1.length]
    exact ⟨by rw [e, vLead_take], fun j hj => by rw [e, getD_take hj]⟩
  by_cases hneg : vLead n3 x3 < 0
  · have HN := Lib.hid hneg
    have e1 : ((n3 : Int) == (n3 : Int)) = true := by simp
    go_wp2_with fail
    refine (rplead_any _ n3 c3 A3 x3 _ HB3.out.1 (by omega) n3 ⟨fun _ => rfl, fun e => absurd HN.out e⟩).mono ?_
    rintro e w4 ⟨rfl, rfl⟩
    go_wp2_with fail
    go_ret2
    have hin : inB n3 n4 B (x1 ++ x2) := by show vLead n3 _ < 0; rw [← HLD.out.1]; exact HN.out
    exact ⟨by rw [decide_eq_true hin]; rfl, F, iv, R, H.out.keep K3.out, by rw [insB_in hin]; exact HS.out.1, fun k hk => Or.inl hk, Turned.of_keep K3.out⟩
  · obtain ⟨L, hL1, hL2⟩ := vLead_some hneg
    obtain ⟨hLg, hL0, _⟩ := (vLeadTo_some _ n3 L).1 hL1
    have HN := Lib.hid (And.intro hneg hL2)
    have e1 : ((L : Int) == (n3 : Int)) = false := beq_eq_false_iff_ne.2 (by omega)
    have e1b : ¬ ((L : Int) = (n3 : Int)) := by omega
    have e1c : ¬ (L = n3) := by omega
    obtain ⟨g3, o3, rfl, hg3, cx⟩ := HB3.out.1.at_ hLg
    obtain ⟨cl, hcl⟩ : ∃ cl, x3.getD L 0 = cl := ⟨_, rfl⟩
    have hclb : cl < 256 := by rw [← hcl]; exact HB3.out.1.all.getD L
    rw [hcl] at cx hL0
    have HCL := Lib.hid (And.intro hcl (And.intro hclb hL0))
    have e2 : (0 : Int) ≤ (L : Int) := Int.natCast_nonneg _
    have e3 : (L : Int) < (n3 : Int) := by omega
    have HLG : Hid (L < n3) := hLg
    have herr : err0 cl = 0 := by rw [err0, if_neg hL0]
    clear hneg hL1 hcl hclb hL0 hg3
    go_wp2_with fail
    refine (rplead_any _ n3 c3 _ x3 _ HB3.out.1 (by omega) L ⟨fun e => absurd e (by have := HN.out.1; omega), fun _ => HN.out.2⟩).mono ?_
    rintro e w4 ⟨rfl, rfl⟩
    go_wp2_with fail
    refine (rinv_any cl HCL.out.2.1 _).mono ?_
    rw [herr]
    rintro e w5 ⟨rfl, rfl⟩
    clear cx u0
    have c1' := (H.out.keep K3.out).c1
    have mkg := fun w => run_make_bytes (P := Tryz.prog) Tryz.underlying32 info5 n3 (by omega) w
    have mks := fun w => run_make_bytes (P := Tryz.prog) Tryz.underlying32 info5 n4 (by omega) w
    have HBL3 : Hid (b < w3.heap.size) := Nat.lt_of_lt_of_le HBL.out K3.out.size
    have g1 : n3 ≤ 255 := hg
    have s1 : n4 ≤ 65535 := hs
    go_upto_region 9 with fail
    go_cut [9] (fun v wx => ∃ (qz : Nat) (A5 A6 : Option Addr), v = .pointer (some ⟨qz, 0, none⟩) ∧ Nought w3 wx qz n3 n4 A5 A6)
    case first =>
      have hbl : b < w3.heap.size := HBL3.out
      have p0 : ∀ v t, (w3.alloc (.cells v t)).cell? ⟨b, 0, none⟩ = some (.int .i64 (n3 : Int)) := fun v t => (World.cell?_alloc_past _ _ _ hbl).trans d0
      have p1 : ∀ v t, (w3.alloc (.cells v t)).cell? ⟨b, 1, none⟩ = some (.int .i64 (n4 : Int)) := fun v t => (World.cell?_alloc_past _ _ _ hbl).trans c1'
      have p2 : ∀ v t v' t', ((w3.alloc (.cells v t)).alloc (.cells v' t')).cell? ⟨b, 0, none⟩ = some (.int .i64 (n3 : Int)) := fun v t v' t' => (World.cell?_alloc_past _ _ _ (show b < _ by simp; omega)).trans (p0 v t)
      have p3 : ∀ v t v' t', ((w3.alloc (.cells v t)).alloc (.cells v' t')).cell? ⟨b, 1, none⟩ = some (.int .i64 (n4 : Int)) := fun v t v' t' => (World.cell?_alloc_past _ _ _ (show b < _ by simp; omega)).trans (p1 v t)
      go_region
      all_goals
        go_wp2_with fail
        go_meet
        case rel =>
          first
            | exact ⟨_, _, _, rfl, nought_of (by omega) (three_allocs w3 _ _ _ _ _ _).1 (three_allocs w3 _ _ _ _ _ _).2.1 (three_allocs w3 _ _ _ _ _ _).2.2.1 (three_allocs w3 _ _ _ _ _ _).2.2.2 (by omega) (by omega) g1 s1⟩
            | exact ⟨_, _, _, rfl, nought_of (by omega) (three_allocs w3 _ _ _ _ _ _).1 (three_allocs w3 _ _ _ _ _ _).2.2.1 (three_allocs w3 _ _ _ _ _ _).2.1 (three_allocs w3 _ _ _ _ _ _).2.2.2 (by omega) (by omega) g1 s1⟩
            | exact ⟨_, _, _, rfl, nought_of (by omega) (three_allocs w3 _ _ _ _ _ _).2.1 (three_allocs w3 _ _ _ _ _ _).1 (three_allocs w3 _ _ _ _ _ _).2.2.1 (three_allocs w3 _ _ _ _ _ _).2.2.2 (by omega) (by omega) g1 s1⟩
            | exact ⟨_, _, _, rfl, nought_of (by omega) (three_allocs w3 _ _ _ _ _ _).2.1 (three_allocs w3 _ _ _ _ _ _).2.2.1 (three_allocs w3 _ _ _ _ _ _).1 (three_allocs w3 _ _ _ _ _ _).2.2.2 (by omega) (by omega) g1 s1⟩
            | exact ⟨_, _, _, rfl, nought_of (by omega) (three_allocs w3 _ _ _ _ _ _).2.2.1 (three_allocs w3 _ _ _ _ _ _).1 (three_allocs w3 _ _ _ _ _ _).2.1 (three_allocs w3 _ _ _ _ _ _).2.2.2 (by omega) (by omega) g1 s1⟩
            | exact ⟨_, _, _, rfl, nought_of (by omega) (three_allocs w3 _ _ _ _ _ _).2.2.1 (three_allocs w3 _ _ _ _ _ _).2.1 (three_allocs w3 _ _ _ _ _ _).1 (three_allocs w3 _ _ _ _ _ _).2.2.2 (by omega) (by omega) g1 s1⟩
    case rest =>
      obtain ⟨qz, A5, A6, rfl, hN⟩ := hcut
      have HN2 := Lib.hid hN
      have x0 : wc.cell? ⟨qz, 0, none⟩ = some (.slice A5 n3 n3) := cell_of_row _ _ _ _ _ _ hN.row
      have x1' : wc.cell? ⟨qz, 1, none⟩ = some (.slice A6 n4 n4) := cell_of_row _ _ _ _ _ _ hN.row
      have HWC : Hid (wc.heap[q]? = some (.cells #[.slice (some ⟨g3, o3, none⟩) n3 c3, .slice A4 n4 c4] 34 (0, 0))) := (hN.keep.block q (Array.getElem?_eq_some_iff.1 HW3.out).1).trans HW3.out
      have y0 : wc.cell? ⟨q, 0, none⟩ = some (.slice (some ⟨g3, o3, none⟩) n3 c3) := cell_of_row _ _ _ _ _ _ HWC.out
      have y1 : wc.cell? ⟨q, 1, none⟩ = some (.slice A4 n4 c4) := cell_of_row _ _ _ _ _ _ HWC.out
      clear hN mkg mks d0 c1'
      go_wp2_with fail
      refine (rpplus_any n3 n4 (invN cl) ⟨⟨A5, n3, n3, List.replicate n3 0⟩, ⟨A6, n4, n4, List.replicate n4 0⟩⟩ ⟨⟨some ⟨g3, o3, none⟩, n3, c3, x3⟩, ⟨A4, n4, c4, x4⟩⟩ wc ⟨HN2.out.a.bytes, HN2.out.b.bytes, rfl, rfl⟩ ⟨(HB3.out.1.keep (Nat.le_refl _) HN2.out.keep).mono HN2.out.keep.size, (HB3.out.2.keep (Nat.le_refl _) HN2.out.keep).mono HN2.out.keep.size, rfl, rfl⟩ hg hs (invN_lt _)).mono ?_
      rintro e w5 ⟨⟨⟨A7, n7, c7, x7⟩, ⟨A8, n8, c8, x8⟩⟩, he, hC⟩
      obtain rfl : n7 = n3 := hC.an
      obtain rfl : n8 = n4 := hC.bn
      replace he : e = .returned (.agg #[.slice A7 n7 c7, .slice A8 n8 c8]) := he
      subst he
      have h7 : x7 = vScale n7 x3 (invN cl) := by rw [← addS_nought]; exact hC.ax
      have h8 : x8 = vScale n8 x4 (invN cl) := by rw [← addS_nought]; exact hC.bx
      have HR7 : Hid (x7 ++ x8 = vScale (n7 + n8) (leftB (n7 + n8) B (x1 ++ x2)) (invN ((leftB (n7 + n8) B (x1 ++ x2)).getD L 0))) := by
        have e := HCL.out.1
        rw [HLD.out.2 L HLG.out] at e
        have t1 := vScale_take n7 n8 (x3 ++ x4) (invN cl)
        have t2 := vScale_drop n7 n8 (x3 ++ x4) (invN cl)
        rw [List.take_left' HB3.out.1.length] at t1
        rw [List.drop_left' HB3.out.1.length] at t2
        rw [e, ← HL2.out.2.2, ← List.take_append_drop n7 (vScale (n7 + n8) (x3 ++ x4) (invN cl)), t1, t2]
        exact congr (congrArg _ h7) h8
      have HC := Lib.hid hC
      have K5 : Hid (Keep w w5) := (K3.out.trans HN2.out.keep).trans hC.keep
      have HW5 : Hid (w5.heap[q]? = some (.cells #[.slice (some ⟨g3, o3, none⟩) n7 c3, .slice A4 n8 c4] 34 (0, 0))) := (hC.keep.block q (Array.getElem?_eq_some_iff.1 HWC.out).1).trans HWC.out
      have HQC : Hid (q < wc.heap.size) := (Array.getElem?_eq_some_iff.1 HWC.out).1
      have z0 : w5.cell? ⟨q, 0, none⟩ = some (.slice (some ⟨g3, o3, none⟩) n7 c3) := cell_of_row _ _ _ _ _ _ HW5.out
      have z1 : w5.cell? ⟨q, 1, none⟩ = some (.slice A4 n8 c4) := cell_of_row _ _ _ _ _ _ HW5.out
      have f0 : w5.frozen? ⟨q, 0, none⟩ = false := by simp [World.frozen?, HW5.out]
      have f1 : w5.frozen? ⟨q, 1, none⟩ = false := by simp [World.frozen?, HW5.out]
      clear hC x0 x1' y0 y1 h7 h8
      go_wp2_with fail
      have T6 : Turned (fun x => x = q) w5 ((w5.setCell ⟨q, 0, none⟩ (.slice A7 n7 c7)).setCell ⟨q, 1, none⟩ (.slice A8 n8 c8)) :=
        (Turned.set (F := fun b => b = q) w5 ⟨q, 0, none⟩ (.slice A7 n7 c7) rfl).trans (Turned.set (F := fun b => b = q) _ ⟨q, 1, none⟩ (.slice A8 n8 c8) rfl) fun _ e => Or.inl e
      have hb6 := bset (i := 1) (bset (i := 0) HW5.out (.slice A7 n7 c7)) (.slice A8 n8 c8)
      have hnq : ∀ x, (wc.heap.size ≤ x ∧ x < w5.heap.size) → ¬ x = q := fun x hx e => by have := HQC.out; omega
      have K6 : Keep w ((w5.setCell ⟨q, 0, none⟩ (.slice A7 n7 c7)).setCell ⟨q, 1, none⟩ (.slice A8 n8 c8)) := T6.keep K5.out fun i e => by rw [e, HQ.out]; exact Nat.le_refl _
      have HI0 : Hid (InsI w ((w5.setCell ⟨q, 0, none⟩ (.slice A7 n7 c7)).setCell ⟨q, 1, none⟩ (.slice A8 n8 c8)) F b n7 n8 bi br q 0 L iv R R ⟨⟨A7, n7, c7, x7⟩, ⟨A8, n8, c8, x8⟩⟩ wc.heap.size w5.heap.size) :=
        ⟨⟨F, H.out.keep K6, fun x hx => Or.inl hx⟩, hb6, (HC.out.a.lies.mono fun x hx => HC.out.a.1.lt x hx).turned T6 hnq, (HC.out.b.lies.mono fun x hx => HC.out.b.1.lt x hx).turned T6 hnq, fun i p p' hi => by omega, fun i _ => rfl, Turned.of_keep K6, T6.size, by have := HQC.out; have := HC.out.keep.size; omega⟩
      have HQW : Hid (w.heap.size ≤ wc.heap.size ∧ wc.heap.size ≤ w5.heap.size) := ⟨(K3.out.trans HN2.out.keep).size, HC.out.keep.size⟩
      clear T6 hb6 hnq K6 z0 z1 f0 f1 HC HN2 HW5 HWC HW3 HB3
      generalize ((w5.setCell ⟨q, 0, none⟩ (.slice A7 n7 c7)).setCell ⟨q, 1, none⟩ (.slice A8 n8 c8)) = w6 at *
      obtain ⟨lo, hlo⟩ : ∃ lo, wc.heap.size = lo := ⟨_, rfl⟩
      obtain ⟨hi, hhi⟩ : ∃ hi, w5.heap.size = hi := ⟨_, rfl⟩
      rw [hlo, hhi] at HI0 HQW
      rw [hlo] at HQC
      clear hlo hhi
      go_loopw [10] (fun i wr => ∃ (k : Nat) (Rk : List PairV), k ≤ n7 ∧ i = .int .i64 k ∧ InsI w wr F b n7 n8 bi br q k L iv R Rk ⟨⟨A7, n7, c7, x7⟩, ⟨A8, n8, c8, x8⟩⟩ lo hi) (fun i _ => n7 - (intOf i).toNat)
      case atStart => exact ⟨0, R, by omega, rfl, HI0.out⟩
      case round =>
        obtain ⟨k, Rk, hk, rfl, hI⟩ := hrel
        have HI := Lib.hid hI
        clear hI HI0
        obtain ⟨Fk, hRk, hFk⟩ := HI.out.ref
        have HRK := Lib.hid hRk
        have HFK := Lib.hid hFk
        have c0 := hRk.c0
        by_cases hlt : k < n7
        · have hx := List.getElem?_eq_getElem (l := iv) (i := k) (by rw [H.out.li]; exact hlt)
          have hp := List.getElem?_eq_getElem (l := R) (i := k) (by rw [H.out.lr]; exact hlt)
          obtain ⟨x, hxe⟩ : ∃ x, iv[k]'(by rw [H.out.li]; exact hlt) = x := ⟨_, rfl⟩
          obtain ⟨r, hre⟩ : ∃ r, R[k]'(by rw [H.out.lr]; exact hlt) = r := ⟨_, rfl⟩
          rw [hxe] at hx
          rw [hre] at hp
          have hpk : Rk[k]? = some r := (HI.out.rest k (Nat.le_refl _)).trans hp
          have cb := hRk.cb hx
          have c2' := hRk.c2
          have f1 : (0 : Int) ≤ (k : Int) := Int.natCast_nonneg _
          have f2 : (k : Int) < (n7 : Int) := by omega
          have HXP := Lib.hid (And.intro hx (And.intro hp hpk))
          have HLT : Hid (k < n7) := hlt
          clear hxe hre hx hp hpk hlt hRk hFk
          cases x with
          | false =>
            go_wp2_with fail
            go_roundw
            case rel => exact ⟨k + 1, Rk, by have := HLT.out; omega, by go_num, HI.out.skip HXP.out.1⟩
            case measure => have := HLT.out; simp [intOf]; omega
          | true =>
            have hrow := HRK.out.rows k r HXP.out.1 HXP.out.2.2
            have hz := HS.out.1.size k r HXP.out.1 HXP.out.2.1
            have hcl := HRK.out.st.cells HXP.out.2.2
            have hra := hrow.1.1.bytes (B := wr.heap.size) fun x hx => HRK.out.lt x hx.1
            have hrb := hrow.1.2.bytes (B := wr.heap.size) fun x hx => HRK.out.lt x hx.1
            rw [hrow.2.1] at hra
            rw [hrow.2.2] at hrb
            obtain ⟨⟨rA, rn, rc, rx⟩, ⟨sA, sn, sc, sx⟩⟩ := r
            obtain ⟨z1, z2⟩ := hrow.2
            simp only at z1 z2 hra hrb
            obtain rfl : rn = n7 := z1
            obtain rfl : sn = n8 := z2
            obtain ⟨bx, ox, hA, hbx, cx⟩ := hra.at_ HLG.out
            subst hA
            obtain ⟨v, hv⟩ : ∃ v, rx.getD L 0 = v := ⟨_, rfl⟩
            have hvb : v < 256 := by rw [← hv]; exact hra.all.getD L
            rw [hv] at cx
            have HBXR : Hid (bx ≠ br ∧ (∀ x, Fk x → F x ∨ hi ≤ x)) := by
              refine ⟨?_, HFK.out⟩
              obtain ⟨b', o', e, hF, _⟩ := hrow.1.1.2.2.2 (by have := HLG.out; show 0 < rn; omega)
              cases e
              exact hF.2.2.2
            have hqa := HI.out.ra.bytes (B := wr.heap.size) fun x hx => Nat.lt_of_lt_of_le hx.2 HI.out.lim
            have hqb := HI.out.rb.bytes (B := wr.heap.size) fun x hx => Nat.lt_of_lt_of_le hx.2 HI.out.lim
            have HPP : Hid (Bytes wr wr.heap.size (some ⟨bx, ox, none⟩) rn rx ∧ Bytes wr wr.heap.size sA sn sx ∧ Bytes wr wr.heap.size A7 rn x7 ∧ Bytes wr wr.heap.size A8 sn x8) := ⟨hra, hrb, hqa, hqb⟩
            have HV : Hid (v < 256 ∧ rx.getD L 0 = v ∧ rx.length = rn ∧ sx.length = sn) := ⟨hvb, hv, hz.1, hz.2⟩
            have y0 : wr.cell? ⟨q, 0, none⟩ = some (.slice A7 rn c7) := cell_of_row _ _ _ _ _ _ HI.out.row
            have y1 : wr.cell? ⟨q, 1, none⟩ = some (.slice A8 sn c8) := cell_of_row _ _ _ _ _ _ HI.out.row
            have y2 := HRK.out.c3
            have y3 : wr.cell? ⟨br, k * 2, none⟩ = some (.slice (some ⟨bx, ox, none⟩) rn rc) := hcl.1
            have y4 : wr.cell? ⟨br, k * 2 + 1, none⟩ = some (.slice sA sn sc) := hcl.2
            have HLL : Hid (q < wr.heap.size ∧ b < wr.heap.size ∧ br < wr.heap.size ∧ bx < wr.heap.size ∧ br < q ∧ b ≠ br) := ⟨(Array.getElem?_eq_some_iff.1 HI.out.row).1, HRK.out.lt b HRK.out.fb, HRK.out.lt br HRK.out.fr, hbx, by rw [← HQ.out]; exact H.out.lt br H.out.fr, HRK.out.ne.2.1⟩
            clear hrow hz hcl hra hrb hqa hqb hv hvb hbx
            go_wp2_with fail
            clear c2' cb c0
            refine wp_region_noPanic ?_
            refine wp_region_held_drew (S := fun wz => wz.cell? ⟨b, 3, none⟩ = some (.slice (some ⟨br, 0, none⟩) rn rn) ∧ wz.cell? ⟨q, 0, none⟩ = some (.slice A7 rn c7) ∧ wz.cell? ⟨q, 1, none⟩ = some (.slice A8 sn c8) ∧ wz.cell? ⟨bx, ox + L, none⟩ = some (.int .u8 (v : Int))) (by kernel_rfl) ⟨y2, y0, y1, cx⟩ (fun hHeld => ?_)
            refine wpAnyH_take (i := 0) (v := ?_) rfl (by kernel_rfl) (by kernel_rfl) (by kernel_rfl) (fun _ _ _ h => h) (Or.inl ⟨by rfl, ?_⟩) hHeld ?_
            rotate_left
            · intro wq hSw
              go_simp
              all_goals with_reducible rfl
            try simp only [Act.put, List.getElem_toArray, List.getElem_cons_succ, List.getElem_cons_zero, List.setIfInBounds_toArray, List.set_cons_zero, List.set_cons_succ]
            refine wpAnyH_take (i := 1) (v := ?_) rfl (by kernel_rfl) (by kernel_rfl) (by kernel_rfl) (fun _ _ _ h => h) (Or.inl ⟨by rfl, ?_⟩) hHeld ?_
            rotate_left
            · intro wq hSw
              go_simp
              all_goals with_reducible rfl
            try simp only [Act.put, List.getElem_toArray, List.getElem_cons_succ, List.getElem_cons_zero, List.setIfInBounds_toArray, List.set_cons_zero, List.set_cons_succ]
            refine wpAnyH_take (i := 2) (v := ?_) rfl (by kernel_rfl) (by kernel_rfl) (by kernel_rfl) (fun _ _ _ h => h) (Or.inl ⟨by rfl, ?_⟩) hHeld ?_
            rotate_left
            · intro wq hSw
              go_simp
              all_goals with_reducible rfl
            try simp only [Act.put, List.getElem_toArray, List.getElem_cons_succ, List.getElem_cons_zero, List.setIfInBounds_toArray, List.set_cons_zero, List.set_cons_succ]
            refine wpAnyH_take (i := 3) (v := ?_) rfl (by kernel_rfl) (by kernel_rfl) (by kernel_rfl) (fun _ _ _ h => h) (Or.inl ⟨by rfl, ?_⟩) hHeld ?_
            rotate_left
            · intro wq hSw
              have q0 := hSw.1
              have q1 := hSw.2.1
              have q2 := hSw.2.2.1
              have q3 := hSw.2.2.2
              go_simp
              all_goals with_reducible rfl
            try simp only [Act.put, List.getElem_toArray, List.getElem_cons_succ, List.getElem_cons_zero, List.setIfInBounds_toArray, List.set_cons_zero, List.set_cons_succ]
            refine wpAnyH_take (i := 4) (v := ?_) rfl (by kernel_rfl) (by kernel_rfl) (by kernel_rfl) (fun _ _ _ h => h) (Or.inl ⟨by rfl, ?_⟩) hHeld ?_
            rotate_left
            · intro wq hSw
              go_simp
              all_goals with_reducible rfl
            try simp only [Act.put, List.getElem_toArray, List.getElem_cons_succ, List.getElem_cons_zero, List.setIfInBounds_toArray, List.set_cons_zero, List.set_cons_succ]
            refine wpAnyH_take (i := 5) (v := ?_) rfl (by kernel_rfl) (by kernel_rfl) (by kernel_rfl) (fun _ _ _ h => h) (Or.inl ⟨by rfl, ?_⟩) hHeld ?_
            rotate_left
            · intro wq hSw
              go_simp
              all_goals with_reducible rfl
            try simp only [Act.put, List.getElem_toArray, List.getElem_cons_succ, List.getElem_cons_zero, List.setIfInBounds_toArray, List.set_cons_zero, List.set_cons_succ]
            refine wpAnyH_take (i := 6) (v := ?_) rfl (by kernel_rfl) (by kernel_rfl) (by kernel_rfl) (fun _ _ _ h => h) (Or.inl ⟨by rfl, ?_⟩) hHeld ?_
            rotate_left
            · intro wq hSw
              go_simp
              all_goals with_reducible rfl
            try simp only [Act.put, List.getElem_toArray, List.getElem_cons_succ, List.getElem_cons_zero, List.setIfInBounds_toArray, List.set_cons_zero, List.set_cons_succ]
            refine wpAnyH_take (i := 7) (v := ?_) rfl (by kernel_rfl) (by kernel_rfl) (by kernel_rfl) (fun _ _ _ h => h) (Or.inl ⟨by rfl, ?_⟩) hHeld ?_
            rotate_left
            · intro wq hSw
              go_simp
              all_goals with_reducible rfl
            try simp only [Act.put, List.getElem_toArray, List.getElem_cons_succ, List.getElem_cons_zero, List.setIfInBounds_toArray, List.set_cons_zero, List.set_cons_succ]
            refine wpAnyH_take (i := 8) (v := ?_) rfl (by kernel_rfl) (by kernel_rfl) (by kernel_rfl) (fun _ _ _ h => h) (Or.inl ⟨by rfl, ?_⟩) hHeld ?_
            rotate_left
            · intro wq hSw
              have q0 := hSw.1
              have q1 := hSw.2.1
              have q2 := hSw.2.2.1
              have q3 := hSw.2.2.2
              go_simp
              all_goals with_reducible rfl
            try simp only [Act.put, List.getElem_toArray, List.getElem_cons_succ, List.getElem_cons_zero, List.setIfInBounds_toArray, List.set_cons_zero, List.set_cons_succ]
            refine wpAnyH_take (i := 9) (v := ?_) rfl (by kernel_rfl) (by kernel_rfl) (by kernel_rfl) (fun _ _ _ h => h) (Or.inl ⟨by rfl, ?_⟩) hHeld ?_
            rotate_left
            · intro wq hSw
              go_simp
              all_goals with_reducible rfl
            try simp only [Act.put, List.getElem_toArray, List.getElem_cons_succ, List.getElem_cons_zero, List.setIfInBounds_toArray, List.set_cons_zero, List.set_cons_succ]
            refine wpAnyH_take (i := 10) (v := ?_) rfl (by kernel_rfl) (by kernel_rfl) (by kernel_rfl) (fun _ _ _ h => h) (Or.inl ⟨by rfl, ?_⟩) hHeld ?_
            rotate_left
            · intro wq hSw
              go_simp
              all_goals with_reducible rfl
            try simp only [Act.put, List.getElem_toArray, List.getElem_cons_succ, List.getElem_cons_zero, List.setIfInBounds_toArray, List.set_cons_zero, List.set_cons_succ]
            refine wpAnyH_take (i := 12) (v := ?_) rfl (by kernel_rfl) (by kernel_rfl) (by kernel_rfl) (fun _ _ _ h => h) (Or.inl ⟨by rfl, ?_⟩) hHeld ?_
            rotate_left
            · intro wq hSw
              have q0 := hSw.1
              have q1 := hSw.2.1
              have q2 := hSw.2.2.1
              have q3 := hSw.2.2.2
              go_simp
              all_goals with_reducible rfl
            try simp only [Act.put, List.getElem_toArray, List.getElem_cons_succ, List.getElem_cons_zero, List.setIfInBounds_toArray, List.set_cons_zero, List.set_cons_succ]
            refine wpAnyH_take (i := 13) (v := ?_) rfl (by kernel_rfl) (by kernel_rfl) (by kernel_rfl) (fun _ _ _ h => h) (Or.inl ⟨by rfl, ?_⟩) hHeld ?_
            rotate_left
            · intro wq hSw
              go_simp
              all_goals with_reducible rfl
            try simp only [Act.put, List.getElem_toArray, List.getElem_cons_succ, List.getElem_cons_zero, List.setIfInBounds_toArray, List.set_cons_zero, List.set_cons_succ]
            refine wpAnyH_take (i := 14) (v := ?_) rfl (by kernel_rfl) (by kernel_rfl) (by kernel_rfl) (fun _ _ _ h => h) (Or.inl ⟨by rfl, ?_⟩) hHeld ?_
            rotate_left
            · intro wq hSw
              go_simp
              all_goals with_reducible rfl
            try simp only [Act.put, List.getElem_toArray, List.getElem_cons_succ, List.getElem_cons_zero, List.setIfInBounds_toArray, List.set_cons_zero, List.set_cons_succ]
            refine wpAnyH_take (i := 15) (v := ?_) rfl (by kernel_rfl) (by kernel_rfl) (by kernel_rfl) (fun _ _ _ h => h) (Or.inl ⟨by rfl, ?_⟩) hHeld ?_
            rotate_left
            · intro wq hSw
              go_simp
              all_goals with_reducible rfl
            try simp only [Act.put, List.getElem_toArray, List.getElem_cons_succ, List.getElem_cons_zero, List.setIfInBounds_toArray, List.set_cons_zero, List.set_cons_succ]
            refine wpAnyH_take (i := 16) (v := ?_) rfl (by kernel_rfl) (by kernel_rfl) (by kernel_rfl) (fun _ _ _ h => h) (Or.inl ⟨by rfl, ?_⟩) hHeld ?_
            rotate_left
            · intro wq hSw
              have q0 := hSw.1
              have q1 := hSw.2.1
              have q2 := hSw.2.2.1
              have q3 := hSw.2.2.2
              go_simp
              all_goals with_reducible rfl
            try simp only [Act.put, List.getElem_toArray, List.getElem_cons_succ, List.getElem_cons_zero, List.setIfInBounds_toArray, List.set_cons_zero, List.set_cons_succ]
            refine wpAnyH_take (i := 17) (v := ?_) rfl (by kernel_rfl) (by kernel_rfl) (by kernel_rfl) (fun _ _ _ h => h) (Or.inl ⟨by rfl, ?_⟩) hHeld ?_
            rotate_left
            · intro wq hSw
              go_simp
              all_goals with_reducible rfl
            try simp only [Act.put, List.getElem_toArray, List.getElem_cons_succ, List.getElem_cons_zero, List.setIfInBounds_toArray, List.set_cons_zero, List.set_cons_succ]
            refine wpAnyH_take (i := 18) (v := ?_) rfl (by kernel_rfl) (by kernel_rfl) (by kernel_rfl) (fun _ _ _ h => h) (Or.inl ⟨by rfl, ?_⟩) hHeld ?_
            rotate_left
            · intro wq hSw
              go_simp
              all_goals with_reducible rfl
            try simp only [Act.put, List.getElem_toArray, List.getElem_cons_succ, List.getElem_cons_zero, List.setIfInBounds_toArray, List.set_cons_zero, List.set_cons_succ]
            refine wpAnyH_take (i := 19) (v := ?_) rfl (by kernel_rfl) (by kernel_rfl) (by kernel_rfl) (fun _ _ _ h => h) (Or.inl ⟨by rfl, ?_⟩) hHeld ?_
            rotate_left
            · intro wq hSw
              go_simp
              all_goals with_reducible rfl
            try simp only [Act.put, List.getElem_toArray, List.getElem_cons_succ, List.getElem_cons_zero, List.setIfInBounds_toArray, List.set_cons_zero, List.set_cons_succ]
            refine wpAnyH_take (i := 21) (v := ?_) rfl (by kernel_rfl) (by kernel_rfl) (by kernel_rfl) (fun _ _ _ h => h) (Or.inl ⟨by rfl, ?_⟩) hHeld ?_
            rotate_left
            · intro wq hSw
              go_simp
              all_goals with_reducible rfl
            try simp only [Act.put, List.getElem_toArray, List.getElem_cons_succ, List.getElem_cons_zero, List.setIfInBounds_toArray, List.set_cons_zero, List.set_cons_succ]
            refine wpAnyH_ready (rs := [11, 20]) (by kernel_rfl) (by simp) ?_
            refine AllReadyH.cons rfl (fun K hK => ?_) (AllReadyH.cons rfl (fun K hK => ?_) AllReadyH.nil)
            · go_simp
              refine hK.out _ _ ⟨y2, y0, y1, cx⟩ (fun hHeld => ?_)
              clear hK K
              try simp only [Act.put, List.getElem_toArray, List.getElem_cons_succ, List.getElem_cons_zero, List.setIfInBounds_toArray, List.set_cons_zero, List.set_cons_succ]
              refine wpAnyH_ready (rs := [20]) (by kernel_rfl) (by simp) ?_
              refine AllReadyH.cons rfl (fun K hK => ?_) AllReadyH.nil
              go_simp
              refine hK.out _ _ ⟨y2, y0, y1, cx⟩ (fun hHeld => ?_)
              clear hK K
              try simp only [Act.put, List.getElem_toArray, List.getElem_cons_succ, List.getElem_cons_zero, List.setIfInBounds_toArray, List.set_cons_zero, List.set_cons_succ]
              refine wpAnyH_take (i := 22) (v := ?_) rfl (by kernel_rfl) (by kernel_rfl) (by kernel_rfl) (fun _ _ _ h => h) (Or.inl ⟨by rfl, ?_⟩) hHeld ?_
              rotate_left
              · intro wq hSw
                go_simp
                all_goals with_reducible rfl
              try simp only [Act.put, List.getElem_toArray, List.getElem_cons_succ, List.getElem_cons_zero, List.setIfInBounds_toArray, List.set_cons_zero, List.set_cons_succ]
              refine wpAnyH_take (i := 23) (v := ?_) rfl (by kernel_rfl) (by kernel_rfl) (by kernel_rfl) (fun _ _ _ h => h) (Or.inl ⟨by rfl, ?_⟩) hHeld ?_
              rotate_left
              · intro wq hSw
                have q0 := hSw.1
                have q1 := hSw.2.1
                have q2 := hSw.2.2.1
                have q3 := hSw.2.2.2
                go_simp
                all_goals with_reducible rfl
              try simp only [Act.put, List.getElem_toArray, List.getElem_cons_succ, List.getElem_cons_zero, List.setIfInBounds_toArray, List.set_cons_zero, List.set_cons_succ]
              refine wpAnyH_ready (rs := [24]) (by kernel_rfl) (by simp) ?_
              refine AllReadyH.cons rfl (fun K hK => ?_) AllReadyH.nil
              go_simp
              refine (rpplus_any rn sn v ⟨⟨some ⟨bx, ox, none⟩, rn, rc, rx⟩, ⟨sA, sn, sc, sx⟩⟩ ⟨⟨A7, rn, c7, x7⟩, ⟨A8, sn, c8, x8⟩⟩ wr.drew ⟨HPP.out.1.keep (Nat.le_refl _) (Keep.refl wr).drew, HPP.out.2.1.keep (Nat.le_refl _) (Keep.refl wr).drew, rfl, rfl⟩ ⟨HPP.out.2.2.1.keep (Nat.le_refl _) (Keep.refl wr).drew, HPP.out.2.2.2.keep (Nat.le_refl _) (Keep.refl wr).drew, rfl, rfl⟩ hg hs HV.out.1).mono ?_
              rintro e w10 ⟨⟨⟨A9, n9, c9, x9⟩, ⟨A0, n0, c0, x0⟩⟩, he, hC⟩
              replace he : e = .returned (.agg #[.slice A9 n9 c9, .slice A0 n0 c0]) := he
              subst he
              have HC := Lib.hid hC
              have K4 : Hid (Keep wr w10) := (Keep.drew (Keep.refl wr)).trans hC.keep
              have y2' := (K4.out.cell (p := ⟨b, 3, none⟩) HLL.out.2.1).trans y2
              have y0' := (K4.out.cell (p := ⟨q, 0, none⟩) HLL.out.1).trans y0
              have y1' := (K4.out.cell (p := ⟨q, 1, none⟩) HLL.out.1).trans y1
              have cx' := (K4.out.cell (p := ⟨bx, ox + L, none⟩) HLL.out.2.2.2.1).trans cx
              clear hC
              refine hK.out _ _ ⟨y2', y0', y1', cx'⟩ (fun hHeld => ?_)
              clear hK K
              try simp only [Act.put, List.getElem_toArray, List.getElem_cons_succ, List.getElem_cons_zero, List.setIfInBounds_toArray, List.set_cons_zero, List.set_cons_succ]
              refine wpAnyH_take (i := 25) (v := ?_) rfl (by kernel_rfl) (by kernel_rfl) (by kernel_rfl) (fun _ _ _ h => h) (Or.inl ⟨by rfl, ?_⟩) hHeld ?_
              rotate_left
              · intro wq hSw
                go_simp
                all_goals with_reducible rfl
              try simp only [Act.put, List.getElem_toArray, List.getElem_cons_succ, List.getElem_cons_zero, List.setIfInBounds_toArray, List.set_cons_zero, List.set_cons_succ]
              have HR4 := Lib.hid (HRK.out.keep K4.out)
              obtain ⟨z0, z1⟩ := HR4.out.st.cells HXP.out.2.2
              change _ = some (Value.slice (some ⟨bx, ox, none⟩) rn rc) at z0
              change _ = some (Value.slice sA sn sc) at z1
              have f3 := HR4.out.st.frozen (k * 2)
              have f4 := HR4.out.st.frozen (k * 2 + 1)
              refine wpAnyH_ready (rs := [26]) (by kernel_rfl) (by simp) ?_
              refine AllReadyH.cons rfl (fun K hK => ?_) AllReadyH.nil
              go_simp
              have hset := HR4.out.setRow (RF := fun x => wr.heap.size ≤ x ∧ x < w10.heap.size) (p' := ⟨⟨A9, n9, c9, x9⟩, ⟨A0, n0, c0, x0⟩⟩) HLT.out ⟨HC.out.a.lies.mono fun x hx => HC.out.a.1.lt x hx, HC.out.b.lies.mono fun x hx => HC.out.b.1.lt x hx⟩ ⟨HC.out.an, HC.out.bn⟩ (fun x hx => ⟨hx.2, fun e => by have := HRK.out.lt x e; omega⟩)
              have HSET := Lib.hid hset
              have T6 := hset.2
              have y2'' := T6.cell y2' (by exact HLL.out.2.2.2.2.2)
              have y0'' := T6.cell y0' (by have := HLL.out.2.2.2.2.1; show ¬ q = br; omega)
              have y1'' := T6.cell y1' (by have := HLL.out.2.2.2.2.1; show ¬ q = br; omega)
              have cx'' := T6.cell cx' HBXR.out.1
              clear T6 hset
              refine hK.out _ _ ⟨y2'', y0'', y1'', cx''⟩ (fun hHeld => ?_)
              clear hK K
              try simp only [Act.put, List.getElem_toArray, List.getElem_cons_succ, List.getElem_cons_zero, List.setIfInBounds_toArray, List.set_cons_zero, List.set_cons_succ]
              refine wpAnyH_done (by kernel_rfl) ?_ _
              refine NoPanic.normal ?_
              clear hHeld
              clear y2'' y0'' y1'' cx'' y2' y0' y1' cx' z0 z1 f3 f4 y0 y1 y2 y3 y4 cx
              go_wp2_with fail
              go_roundw
              case rel => exact ⟨k + 1, _, by have := HLT.out; omega, by go_num, HI.out.put HLT.out H.out HQ.out HXP.out.1 HXP.out.2.1 HQW.out HRK.out HFK.out HSET.out.1 HSET.out.2 K4.out (by
                rw [show x9 = _ from HC.out.ax, show x0 = _ from HC.out.bx]
                show vAddS rn rx x7 v ++ vAddS sn sx x8 v = _
                rw [← HV.out.2.1]
                exact pair_sum HV.out.2.2.1 HPP.out.2.2.1.length HLG.out) (by rw [show x9 = _ from HC.out.ax]; exact tab_length _ _) (by rw [show x0 = _ from HC.out.bx]; exact tab_length _ _)⟩
              case measure => have := HLT.out; simp [intOf]; omega
            · go_simp
              refine hK.out _ _ ⟨y2, y0, y1, cx⟩ (fun hHeld => ?_)
              clear hK K
              try simp only [Act.put, List.getElem_toArray, List.getElem_cons_succ, List.getElem_cons_zero, List.setIfInBounds_toArray, List.set_cons_zero, List.set_cons_succ]
              refine wpAnyH_take (i := 22) (v := ?_) rfl (by kernel_rfl) (by kernel_rfl) (by kernel_rfl) (fun _ _ _ h => h) (Or.inl ⟨by rfl, ?_⟩) hHeld ?_
              rotate_left
              · intro wq hSw
                go_simp
                all_goals with_reducible rfl
              try simp only [Act.put, List.getElem_toArray, List.getElem_cons_succ, List.getElem_cons_zero, List.setIfInBounds_toArray, List.set_cons_zero, List.set_cons_succ]
              refine wpAnyH_take (i := 23) (v := ?_) rfl (by kernel_rfl) (by kernel_rfl) (by kernel_rfl) (fun _ _ _ h => h) (Or.inl ⟨by rfl, ?_⟩) hHeld ?_
              rotate_left
              · intro wq hSw
                have q0 := hSw.1
                have q1 := hSw.2.1
                have q2 := hSw.2.2.1
                have q3 := hSw.2.2.2
                go_simp
                all_goals with_reducible rfl
              try simp only [Act.put, List.getElem_toArray, List.getElem_cons_succ, List.getElem_cons_zero, List.setIfInBounds_toArray, List.set_cons_zero, List.set_cons_succ]
              refine wpAnyH_ready (rs := [11]) (by kernel_rfl) (by simp) ?_
              refine AllReadyH.cons rfl (fun K hK => ?_) AllReadyH.nil
              go_simp
              refine hK.out _ _ ⟨y2, y0, y1, cx⟩ (fun hHeld => ?_)
              clear hK K
              try simp only [Act.put, List.getElem_toArray, List.getElem_cons_succ, List.getElem_cons_zero, List.setIfInBounds_toArray, List.set_cons_zero, List.set_cons_succ]
              refine wpAnyH_ready (rs := [24]) (by kernel_rfl) (by simp) ?_
              refine AllReadyH.cons rfl (fun K hK => ?_) AllReadyH.nil
              go_simp
              refine (rpplus_any rn sn v ⟨⟨some ⟨bx, ox, none⟩, rn, rc, rx⟩, ⟨sA, sn, sc, sx⟩⟩ ⟨⟨A7, rn, c7, x7⟩, ⟨A8, sn, c8, x8⟩⟩ wr.drew ⟨HPP.out.1.keep (Nat.le_refl _) (Keep.refl wr).drew, HPP.out.2.1.keep (Nat.le_refl _) (Keep.refl wr).drew, rfl, rfl⟩ ⟨HPP.out.2.2.1.keep (Nat.le_refl _) (Keep.refl wr).drew, HPP.out.2.2.2.keep (Nat.le_refl _) (Keep.refl wr).drew, rfl, rfl⟩ hg hs HV.out.1).mono ?_
              rintro e w10 ⟨⟨⟨A9, n9, c9, x9⟩, ⟨A0, n0, c0, x0⟩⟩, he, hC⟩
              replace he : e = .returned (.agg #[.slice A9 n9 c9, .slice A0 n0 c0]) := he
              subst he
              have HC := Lib.hid hC
              have K4 : Hid (Keep wr w10) := (Keep.drew (Keep.refl wr)).trans hC.keep
              have y2' := (K4.out.cell (p := ⟨b, 3, none⟩) HLL.out.2.1).trans y2
              have y0' := (K4.out.cell (p := ⟨q, 0, none⟩) HLL.out.1).trans y0
              have y1' := (K4.out.cell (p := ⟨q, 1, none⟩) HLL.out.1).trans y1
              have cx' := (K4.out.cell (p := ⟨bx, ox + L, none⟩) HLL.out.2.2.2.1).trans cx
              clear hC
              refine hK.out _ _ ⟨y2', y0', y1', cx'⟩ (fun hHeld => ?_)
              clear hK K
              try simp only [Act.put, List.getElem_toArray, List.getElem_cons_succ, List.getElem_cons_zero, List.setIfInBounds_toArray, List.set_cons_zero, List.set_cons_succ]
              refine wpAnyH_take (i := 25) (v := ?_) rfl (by kernel_rfl) (by kernel_rfl) (by kernel_rfl) (fun _ _ _ h => h) (Or.inl ⟨by rfl, ?_⟩) hHeld ?_
              rotate_left
              · intro wq hSw
                go_simp
                all_goals with_reducible rfl
              try simp only [Act.put, List.getElem_toArray, List.getElem_cons_succ, List.getElem_cons_zero, List.setIfInBounds_toArray, List.set_cons_zero, List.set_cons_succ]
              have HR4 := Lib.hid (HRK.out.keep K4.out)
              obtain ⟨z0, z1⟩ := HR4.out.st.cells HXP.out.2.2
              change _ = some (Value.slice (some ⟨bx, ox, none⟩) rn rc) at z0
              change _ = some (Value.slice sA sn sc) at z1
              have f3 := HR4.out.st.frozen (k * 2)
              have f4 := HR4.out.st.frozen (k * 2 + 1)
              refine wpAnyH_ready (rs := [26]) (by kernel_rfl) (by simp) ?_
              refine AllReadyH.cons rfl (fun K hK => ?_) AllReadyH.nil
              go_simp
              have hset := HR4.out.setRow (RF := fun x => wr.heap.size ≤ x ∧ x < w10.heap.size) (p' := ⟨⟨A9, n9, c9, x9⟩, ⟨A0, n0, c0, x0⟩⟩) HLT.out ⟨HC.out.a.lies.mono fun x hx => HC.out.a.1.lt x hx, HC.out.b.lies.mono fun x hx => HC.out.b.1.lt x hx⟩ ⟨HC.out.an, HC.out.bn⟩ (fun x hx => ⟨hx.2, fun e => by have := HRK.out.lt x e; omega⟩)
              have HSET := Lib.hid hset
              have T6 := hset.2
              have y2'' := T6.cell y2' (by exact HLL.out.2.2.2.2.2)
              have y0'' := T6.cell y0' (by have := HLL.out.2.2.2.2.1; show ¬ q = br; omega)
              have y1'' := T6.cell y1' (by have := HLL.out.2.2.2.2.1; show ¬ q = br; omega)
              have cx'' := T6.cell cx' HBXR.out.1
              clear T6 hset
              refine hK.out _ _ ⟨y2'', y0'', y1'', cx''⟩ (fun hHeld => ?_)
              clear hK K
              try simp only [Act.put, List.getElem_toArray, List.getElem_cons_succ, List.getElem_cons_zero, List.setIfInBounds_toArray, List.set_cons_zero, List.set_cons_succ]
              refine wpAnyH_done (by kernel_rfl) ?_ _
              refine NoPanic.normal ?_
              clear hHeld
              clear y2'' y0'' y1'' cx'' y2' y0' y1' cx' z0 z1 f3 f4 y0 y1 y2 y3 y4 cx
              go_wp2_with fail
              go_roundw
              case rel => exact ⟨k + 1, _, by have := HLT.out; omega, by go_num, HI.out.put HLT.out H.out HQ.out HXP.out.1 HXP.out.2.1 HQW.out HRK.out HFK.out HSET.out.1 HSET.out.2 K4.out (by
                rw [show x9 = _ from HC.out.ax, show x0 = _ from HC.out.bx]
                show vAddS rn rx x7 v ++ vAddS sn sx x8 v = _
                rw [← HV.out.2.1]
                exact pair_sum HV.out.2.2.1 HPP.out.2.2.1.length HLG.out) (by rw [show x9 = _ from HC.out.ax]; exact tab_length _ _) (by rw [show x0 = _ from HC.out.bx]; exact tab_length _ _)⟩
              case measure => have := HLT.out; simp [intOf]; omega
        · obtain rfl : k = n7 := by omega
          have hput := HS.out.1.put (r := ⟨⟨A7, k, c7, x7⟩, ⟨A8, n8, c8, x8⟩⟩) (R' := Rk) HS.out.2 HR.out.1 HR.out.2 (by rw [← HLD.out.1]; exact HN.out.2) HR7.out (HI.out.ra.1) (HI.out.rb.1) hRk.lr (fun i p p' h1 h2 h3 => HI.out.done i p p' (by rw [← H.out.li]; exact (List.getElem?_eq_some_iff.1 h1).1) h1 h2 h3)
          have hset := hRk.setBoth (RF := fun x => (lo ≤ x ∧ x < hi)) (p' := ⟨⟨A7, k, c7, x7⟩, ⟨A8, n8, c8, x8⟩⟩) HLG.out ⟨HI.out.ra, HI.out.rb⟩ ⟨rfl, rfl⟩ (fun x hx => ⟨Nat.lt_of_lt_of_le hx.2 HI.out.lim, fun e => by
            rcases hFk x e with e | e
            · have h1 := H.out.lt x e
              have h2 := HQW.out.1
              omega
            · omega⟩)
          have HPUT := Lib.hid hput
          have HSET := Lib.hid hset
          have cb := hRk.cb hput.2.1
          have c2' := hRk.c2
          have c3' := hRk.c3
          have hne := hRk.ne
          have fb : wr.frozen? ⟨bi, L, none⟩ = false := by simp [World.frozen?, hRk.bools]
          have y0 : wr.cell? ⟨q, 0, none⟩ = some (.slice A7 k c7) := cell_of_row _ _ _ _ _ _ HI.out.row
          have y1 : wr.cell? ⟨q, 1, none⟩ = some (.slice A8 n8 c8) := cell_of_row _ _ _ _ _ _ HI.out.row
          have HBR : Hid (br < q ∧ bi < q) := ⟨by rw [← HQ.out]; exact H.out.lt br H.out.fr, by rw [← HQ.out]; exact H.out.lt bi H.out.fi⟩
          have Tb : Turned (fun x => x = bi) wr (wr.setCell ⟨bi, L, none⟩ (.bool true)) := Turned.set (F := fun b => b = bi) wr ⟨bi, L, none⟩ _ rfl
          have hstb := (hRk.st.turned Tb (fun e => hne.2.2 e.symm))
          obtain ⟨pl, hpl⟩ : ∃ pl, Rk[L]? = some pl := ⟨_, List.getElem?_eq_getElem (by rw [hRk.lr]; exact HLG.out)⟩
          have z := hstb.cells hpl
          have z2 : (wr.setCell ⟨bi, L, none⟩ (.bool true)).cell? ⟨br, L * 2, none⟩ = some (.slice pl.a.A pl.a.n pl.a.c) := z.1
          have z3 : (wr.setCell ⟨bi, L, none⟩ (.bool true)).cell? ⟨br, L * 2 + 1, none⟩ = some (.slice pl.b.A pl.b.n pl.b.c) := z.2
          have f2 := hstb.frozen (L * 2)
          have f3 := hstb.frozen (L * 2 + 1)
          have y0' := Tb.cell y0 (by have := HBR.out.2; show ¬ q = bi; omega)
          have y1' := Tb.cell y1 (by have := HBR.out.2; show ¬ q = bi; omega)
          have c3'' := Tb.cell c3' (by exact hne.1)
          clear hput hset z hstb Tb hpl hne hRk hFk
          go_wp2_with fail
          go_region
          go_wp2_with fail
          go_ret2
          have hnin : ¬ inB k n8 B (x1 ++ x2) := fun hin => by
            have h1 : vLead k (leftB (k + n8) B (x1 ++ x2)) < 0 := hin
            rw [← HLD.out.1] at h1
            have h2 := HN.out.1
            omega
          refine ⟨by rw [decide_eq_false hnin]; rfl, _, iv.set L true, Rk.set L ⟨⟨A7, k, c7, x7⟩, ⟨A8, n8, c8, x8⟩⟩, HSET.out.1.keep (Keep.refl _).drew, HPUT.out.2.2, fun x hx => ?_, (HI.out.turn.trans HSET.out.2 fun x hx => ?_).then_keep (Keep.refl _).drew⟩
          · rcases hx with e | e
            · rcases HFK.out x e with e | e
              · exact Or.inl e
              · exact Or.inr (by have := HQW.out; omega)
            · exact Or.inr (by have := HQW.out; omega)
          · rcases HFK.out x hx with e | e
            · exact Or.inl e
            · exact Or.inr (by have := HQW.out; omega)
end
end Go.Proofs.YtcjjhblgejkkeaaGreat
/- The document's own basis: Rows, Rank, Contains; rows that do not fit. -/
namespace Go.Proofs.YtcjjhblgejkkeaaGreat
open Go.RowKit Lin
set_option linter.unusedVariables false
set_option linter.unusedSimpArgs false
theorem PairV.zero_agg : (PairV.agg ⟨⟨none, 0, 0, []⟩, ⟨none, 0, 0, []⟩⟩) = .agg #[.slice none 0 0, .slice none 0 0] := rfl
section
variable {w : World} {F G : Nat → Prop} {b g s bi br : Nat} {iv : List Bool} {R : List PairV} {B : List (List Nat)}
/-- What Rows tells: a list of its own, of rows that the basis keeps. -/
def RowsR (w w' : World) (F : Nat → Prop) (g s : Nat) (A : Option Addr) (n c : Nat) (qs : List PairV) : Prop :=
  OwnSt w' w.heap.size A n c qs ∧ (∀ p ∈ qs, (LiesIn w' F p.a ∧ LiesIn w' F p.b) ∧ p.a.n = g ∧ p.b.n = s) ∧ Keep w w'
theorem RowsR.stIn {w w' : World} {A : Option Addr} {n c : Nat} {qs : List PairV} (h : RowsR w w' F g s A n c qs) : StIn w' (fun x => F x ∨ (w.heap.size ≤ x ∧ x < w'.heap.size)) A n qs :=
  OwnSt.stIn h.1 (fun p hp => ⟨(h.2.1 p hp).1.1.mono fun x hx => Or.inl hx, (h.2.1 p hp).1.2.mono fun x hx => Or.inl hx⟩) fun x hx => Or.inr (h.1.lt x hx)
theorem selP_size (h : RefR w F b g s bi br iv R) : ∀ p ∈ selP iv R, (LiesIn w F p.a ∧ LiesIn w F p.b) ∧ p.a.n = g ∧ p.b.n = s := fun p hp => by
  obtain ⟨k, hk⟩ := List.getElem?_of_mem hp
  obtain ⟨i, h1, h2⟩ := selP_mem iv R k p hk
  obtain ⟨⟨a, c⟩, z⟩ := h.rows i p h1 h2
  exact ⟨⟨a.mono fun x hx => hx.1, c.mono fun x hx => hx.1⟩, z⟩
set_option maxRecDepth 100000 in
set_option maxHeartbeats 2000000 in
theorem rprows_any (h : RefR w F b g s bi br iv R) (hg : g ≤ 255) :
    Calls Tryz.prog 76 #[.pointer (some ⟨b, 0, none⟩)] w fun e w' => ∃ A n c, e = .returned (.slice A n c) ∧ RowsR w w' F g s A n c (selP iv R) := by
  have H := Lib.hid h
  clear h
  go_enter Tryz.func76, Tryz.ntmps76
  go_wp2_with fail
  go_loopw [3, 4] (fun l i wr => ∃ (k n c : Nat) (A : Option Addr), k ≤ g ∧ i = .int .i64 k ∧ l = .slice A n c ∧ n ≤ k ∧ OwnSt wr w.heap.size A n c (selP (iv.take k) (R.take k)) ∧ Keep w wr) (fun _ i _ => g - (intOf i).toNat)
  case atStart => exact ⟨0, 0, 0, none, by omega, rfl, rfl, by omega, OwnSt.none_ _ _, Keep.refl _⟩
  case round =>
    obtain ⟨k, n, c, A, hk, rfl, rfl, hn, ho, hK⟩ := hrel
    have HO := Lib.hid ho
    have HK := Lib.hid hK
    have hr := H.out.keep hK
    have c0 := hr.c0
    clear ho hK
    by_cases hlt : k < g
    · have hx := List.getElem?_eq_getElem (l := iv) (i := k) (by rw [H.out.li]; exact hlt)
      have hp := List.getElem?_eq_getElem (l := R) (i := k) (by rw [H.out.lr]; exact hlt)
      obtain ⟨x, hxe⟩ : ∃ x, iv[k]'(by rw [H.out.li]; exact hlt) = x := ⟨_, rfl⟩
      obtain ⟨r, hre⟩ : ∃ r, R[k]'(by rw [H.out.lr]; exact hlt) = r := ⟨_, rfl⟩
      rw [hxe] at hx
      rw [hre] at hp
      have cb := hr.cb hx
      have c2' := hr.c2
      have c3' := hr.c3
      have e1 : (0 : Int) ≤ (k : Int) := Int.natCast_nonneg _
      have e2 : (k : Int) < (g : Int) := by omega
      have HXP := Lib.hid (selP_succ hx hp)
      have hcl := hr.st.cells hp
      have HLT : Hid (k < g) := hlt
      clear hxe hre hx hp hlt hr
      cases x with
      | false =>
        clear hcl c3'
        go_wp2_with fail
        go_roundw
        case rel => exact ⟨k + 1, n, c, A, by have := HLT.out; omega, by go_num, rfl, by omega, by rw [HXP.out]; simpa using HO.out, HK.out⟩
        case measure => have := HLT.out; simp [intOf]; omega
      | true =>
        obtain ⟨⟨rA, rn, rc, rx⟩, ⟨sA, sn, sc, sx⟩⟩ := r
        have y3 : wr.cell? ⟨br, k * 2, none⟩ = some (.slice rA rn rc) := hcl.1
        have y4 : wr.cell? ⟨br, k * 2 + 1, none⟩ = some (.slice sA sn sc) := hcl.2
        have HO2 := Lib.hid (HO.out.keep ((Keep.refl wr).alloc #[.slice rA rn rc, .slice sA sn sc] 34))
        have KA : Hid (Keep wr (wr.alloc (.cells #[.slice rA rn rc, .slice sA sn sc] 34))) := (Keep.refl wr).alloc _ _
        have hnb := heap_alloc_new wr (.cells #[.slice rA rn rc, .slice sA sn sc] 34)
        have HN0 : Hid ((wr.alloc (.cells #[.slice rA rn rc, .slice sA sn sc] 34)).cell? ⟨wr.heap.size, 0, none⟩ = some (.slice rA rn rc)) := cell_of_row _ _ _ _ _ _ hnb
        have HN1 : Hid ((wr.alloc (.cells #[.slice rA rn rc, .slice sA sn sc] 34)).cell? ⟨wr.heap.size, 1, none⟩ = some (.slice sA sn sc)) := cell_of_row _ _ _ _ _ _ hnb
        clear hcl hnb
        go_wp2_with (at_builtin; refine wpList_append_st rfl _ _ 55 rfl ⟨⟨rA, rn, rc, rx⟩, ⟨sA, sn, sc, sx⟩⟩ Tryz.underlying55 rfl HO2.out rfl HN0.out HN1.out (by have := HLT.out; omega) (by have h1 := HK.out.size; have h2 := KA.out.size; omega) ?_)
        intro A2 c2 w2 h2 g2 _
        have HOO : Hid (OwnSt w2 w.heap.size A2 (n + 1) c2 (selP (iv.take (k + 1)) (R.take (k + 1)))) := by show OwnSt _ _ _ _ _ _; rw [HXP.out]; exact h2
        have K2 : Hid (Keep w w2) := (HK.out.trans KA.out).grown g2 (fun i e => (HO.out.lt i e).1)
        clear h2 g2
        go_wp2_with fail
        go_roundw
        case rel => exact ⟨k + 1, n + 1, c2, A2, by have := HLT.out; omega, by go_num, rfl, by omega, HOO.out, K2.out⟩
        case measure => have := HLT.out; simp [intOf]; omega
    · obtain rfl : k = g := by omega
      clear hr
      go_wp2_with fail
      go_ret
      have ho := HO.out
      rw [List.take_of_length_le (l := iv) (by rw [H.out.li]; exact Nat.le_refl _), List.take_of_length_le (l := R) (by rw [H.out.lr]; exact Nat.le_refl _)] at ho
      exact ⟨A, n, c, rfl, ho, selP_size (H.out.keep HK.out), HK.out⟩
set_option maxRecDepth 100000 in
theorem rprank_any (h : RefR w F b g s bi br iv R) (hS : Slots g s iv R B) (hg : g ≤ 255) :
    Calls Tryz.prog 58 #[.pointer (some ⟨b, 0, none⟩)] w fun e w' => e = .returned (.int .i64 (B.length : Int)) ∧ Keep w w' := by
  have hl : (selP iv R).length = B.length := by rw [← hS.sel, List.length_map]
  have HL := Lib.hid hl
  have H := Lib.hid h
  clear h hl
  go_enter Tryz.func58, Tryz.ntmps58
  go_wp2_with fail
  refine (rprows_any H.out hg).mono ?_
  rintro e w1 ⟨A, n, c, rfl, hr⟩
  obtain rfl : n = B.length := by rw [← HL.out]; exact hr.1.length.symm
  have K1 := Lib.hid hr.2.2
  clear hr
  go_wp2_with fail
  go_ret
  exact ⟨rfl, K1.out⟩
set_option maxRecDepth 100000 in
set_option maxHeartbeats 1000000 in
theorem rpinsert_dim (h : RefR w F b g s bi br iv R) (n1 n2 c1 c2 : Nat) (A1 A2 : Option Addr) (hd : n1 ≠ g ∨ n2 ≠ s) :
    Calls Tryz.prog 51 #[.pointer (some ⟨b, 0, none⟩), .agg #[.slice A1 n1 c1, .slice A2 n2 c2]] w fun e w' => e = .returned (.tuple #[.bool false, .int .i64 21]) ∧ Keep w w' := by
  obtain ⟨⟨q, hq⟩⟩ : Nonempty (∃ q, w.heap.size = q) := ⟨_, rfl⟩
  have K0 : Hid (Keep w (w.alloc (.cells #[.slice A1 n1 c1, .slice A2 n2 c2] 34))) := (Keep.refl w).alloc _ _
  have HW : Hid ((w.alloc (.cells #[.slice A1 n1 c1, .slice A2 n2 c2] 34)).heap[q]? = some (.cells #[.slice A1 n1 c1, .slice A2 n2 c2] 34 (0, 0))) := by
    show _ = _
    rw [← hq]; exact heap_alloc_new _ _
  have H := Lib.hid h
  have hbb : ((n1 : Int) != (g : Int)) = true ∨ (((n1 : Int) != (g : Int)) = false ∧ ((n2 : Int) != (s : Int)) = true) := by
    by_cases e : n1 = g
    · refine Or.inr ⟨by simp [e], ?_⟩
      rw [bne_iff_ne]; omega
    · exact Or.inl (by rw [bne_iff_ne]; omega)
  clear h hd
  rcases hbb with b0 | ⟨b0, b1⟩
  all_goals
    go_enter Tryz.func51, Tryz.ntmps51
    go_upto_region 1 with fail
    clear hq
    generalize (w.alloc (.cells #[.slice A1 n1 c1, .slice A2 n2 c2] 34)) = w1 at *
    have d0 := (H.out.keep K0.out).c0
    have d1 := (H.out.keep K0.out).c1
    have u0 : w1.cell? ⟨q, 0, none⟩ = some (.slice A1 n1 c1) := cell_of_row _ _ _ _ _ _ HW.out
    have u1 : w1.cell? ⟨q, 1, none⟩ = some (.slice A2 n2 c2) := cell_of_row _ _ _ _ _ _ HW.out
    go_region
    go_wp2_with fail
    go_ret2
    exact ⟨rfl, K0.out.drew⟩
end
end Go.Proofs.YtcjjhblgejkkeaaGreat
/- The document's own basis: Combine; a row of one's own. -/
namespace Go.Proofs.YtcjjhblgejkkeaaGreat
open Go.RowKit Lin
set_option linter.unusedVariables false
set_option linter.unusedSimpArgs false
/-- Rows being summed, in a box at qz. -/
structure CombI (w wr : World) (qz lo g s : Nat) (v : List Nat) (p : PairV) : Prop where
  row : wr.heap[qz]? = some (.cells #[p.a.val, p.b.val] 34 (0, 0))
  an : p.a.n = g
  bn : p.b.n = s
  a : LiesIn wr (fun b => lo ≤ b ∧ b < wr.heap.size) p.a
  b : LiesIn wr (fun b => lo ≤ b ∧ b < wr.heap.size) p.b
  xs : p.a.xs ++ p.b.xs = v
  keep : Keep w wr
theorem CombI.put {w wr w4 w5 : World} {qz lo g s : Nat} {v v' xs ys : List Nat} {p p' : PairV} (h : CombI w wr qz lo g s v p) (hb : w5.heap[qz]? = some (.cells #[p'.a.val, p'.b.val] 34 (0, 0))) (t : Turned (fun b => b = qz) w4 w5) (k4 : Keep wr w4) (hC : SumR wr.drew w4 g s xs ys p') (hlo : lo ≤ wr.heap.size) (hw : w.heap.size ≤ qz) (hx : p'.a.xs ++ p'.b.xs = v') : CombI w w5 qz lo g s v' p' := by
  have hq := (Array.getElem?_eq_some_iff.1 h.row).1
  have hd : ∀ b, (wr.heap.size ≤ b ∧ b < w4.heap.size) → ¬ b = qz := fun b hb => by omega
  have hm : ∀ b, (wr.heap.size ≤ b ∧ b < w4.heap.size) → (lo ≤ b ∧ b < w5.heap.size) := fun b hb => ⟨by omega, Nat.lt_of_lt_of_le hb.2 t.size⟩
  exact ⟨hb, hC.an, hC.bn, ((hC.a.lies.mono fun b hb => hC.a.1.lt b hb).turned t hd).mono hm, ((hC.b.lies.mono fun b hb => hC.b.1.lt b hb).turned t hd).mono hm, hx, t.keep (h.keep.trans k4) fun i e => by rw [e]; exact hw⟩
section
variable {w : World} {F G : Nat → Prop} {b g s bi br : Nat} {iv : List Bool} {R : List PairV} {B : List (List Nat)}
set_option maxRecDepth 100000 in
set_option maxHeartbeats 1000000 in
theorem rpcombine_dim (h : RefR w F b g s bi br iv R) (hS : Slots g s iv R B) (hg : g ≤ 255) (n c1 : Nat) (A1 : Option Addr) (hn : n ≠ B.length) :
    Calls Tryz.prog 60 #[.pointer (some ⟨b, 0, none⟩), .slice A1 n c1] w fun e w' => e = .returned (.tuple #[.agg #[.slice none 0 0, .slice none 0 0], .int .i64 21]) ∧ Keep w w' := by
  have hl : (selP iv R).length = B.length := by rw [← hS.sel, List.length_map]
  have b0 : ((n : Int) != (B.length : Int)) = true := by rw [bne_iff_ne]; omega
  have HL := Lib.hid hl
  have hk0 : Keep w (w.alloc (.cells #[.slice none 0 0, .slice none 0 0] 34)) := (Keep.refl w).alloc _ _
  have H := Lib.hid (h.keep hk0)
  obtain ⟨⟨q, hq⟩⟩ : Nonempty (∃ q, w.heap.size = q) := ⟨_, rfl⟩
  have HQ0 : Hid ((w.alloc (.cells #[.slice none 0 0, .slice none 0 0] 34)).heap[q]? = some (.cells #[.slice none 0 0, .slice none 0 0] 34 (0, 0))) := by show _ = _; rw [← hq]; exact heap_alloc_new _ _
  have K0 := Lib.hid hk0
  have HWL : Hid (q < (w.alloc (.cells #[.slice none 0 0, .slice none 0 0] 34)).heap.size) := by show _ < _; rw [← hq]; simp
  have HQ := Lib.hid hq
  clear h hS hl hn hk0
  go_enter Tryz.func60, Tryz.ntmps60
  go_upto_region 1 with fail
  clear hq
  generalize (w.alloc (.cells #[.slice none 0 0, .slice none 0 0] 34)) = wa at *
  go_wp2_with fail
  refine (rprows_any H.out hg).mono ?_
  rintro e w1 ⟨A, m, c, rfl, hr⟩
  obtain rfl : m = B.length := by rw [← HL.out]; exact hr.1.length.symm
  have K1 := Lib.hid hr.2.2
  have HQ1 : Hid (w1.heap[q]? = some (.cells #[.slice none 0 0, .slice none 0 0] 34 (0, 0))) := (hr.2.2.block q HWL.out).trans HQ0.out
  have z0 : w1.cell? ⟨q, 0, none⟩ = some (.slice none 0 0) := cell_of_row _ _ _ _ _ _ HQ1.out
  have z1 : w1.cell? ⟨q, 1, none⟩ = some (.slice none 0 0) := cell_of_row _ _ _ _ _ _ HQ1.out
  have f0 : w1.frozen? ⟨q, 0, none⟩ = false := by simp [World.frozen?, HQ1.out]
  have f1 : w1.frozen? ⟨q, 1, none⟩ = false := by simp [World.frozen?, HQ1.out]
  clear hr
  go_wp2_with fail
  have hb := bset (i := 1) (bset (i := 0) HQ1.out (.slice none 0 0)) (.slice none 0 0)
  refine bodyPost_ret (v := .tuple #[.agg #[.slice none 0 0, .slice none 0 0], .int .i64 21]) ?_ rfl ⟨rfl, ((K0.out.trans K1.out).setCell (a := ⟨q, 0, none⟩) (by rw [HQ.out]; exact Nat.le_refl _) _).setCell (a := ⟨q, 1, none⟩) (by rw [HQ.out]; exact Nat.le_refl _) _⟩
  exact results_cell_tmp (p := 4) (u := 5) (ty := 34) rfl _ _ q 34 _ (0, 0) _ rfl hb Tryz.underlying34 rfl infoRowSize
set_option maxRecDepth 100000 in
set_option maxHeartbeats 4000000 in
theorem rpcombine_in (h : RefR w F b g s bi br iv R) (hS : Slots g s iv R B) (hg : g ≤ 255) (hs : s ≤ 65535) (B1 c1 n : Nat) (A1 : Option Addr) (D : List Nat) (hD : Bytes w B1 A1 n D) (hB1 : B1 ≤ w.heap.size) (hn : n = B.length) :
    Calls Tryz.prog 60 #[.pointer (some ⟨b, 0, none⟩), .slice A1 n c1] w fun e w' => ∃ p : PairV, e = .returned (.tuple #[p.agg, .int .i64 0]) ∧ p.a.n = g ∧ p.b.n = s ∧ LiesIn w' (fun x => w.heap.size ≤ x ∧ x < w'.heap.size) p.a ∧ LiesIn w' (fun x => w.heap.size ≤ x ∧ x < w'.heap.size) p.b ∧ p.a.xs ++ p.b.xs = vComb (g + s) B D B.length ∧ Keep w w' := by
  have hl : (selP iv R).length = n := by rw [hn, ← hS.sel, List.length_map]
  have b0 : ((n : Int) != (n : Int)) = false := by simp
  have HL := Lib.hid (And.intro hl (And.intro hS.sel (And.intro hn (fun (p : PairV) (hp : p ∈ selP iv R) => (show p.a.xs.length = g ∧ p.b.xs.length = s from by
    obtain ⟨k, hk⟩ := List.getElem?_of_mem hp
    obtain ⟨i, h1, h2⟩ := selP_mem iv R k p hk
    exact hS.size i p h1 h2)))))
  have hnl : n ≤ 255 := by
    have h1 := hS.cnt_all
    have : (selP iv R).length ≤ iv.length := by
      have h2 : ∀ (a : List Bool) (c : List PairV), (selP a c).length ≤ a.length := fun a => by
        induction a with
        | nil => intro c; exact Nat.le_refl _
        | cons x a ih =>
          intro c
          cases c with
          | nil => exact Nat.zero_le _
          | cons p c =>
            have := ih c
            cases x <;> simp [selP] <;> omega
      exact h2 iv R
    rw [hS.li] at this
    omega
  have hk0 : Keep w (w.alloc (.cells #[.slice none 0 0, .slice none 0 0] 34)) := (Keep.refl w).alloc _ _
  have H := Lib.hid (h.keep hk0)
  have HF := Lib.hid h.lt
  have HD := Lib.hid (And.intro hD hB1)
  obtain ⟨⟨q, hq⟩⟩ : Nonempty (∃ q, w.heap.size = q) := ⟨_, rfl⟩
  have HQ0 : Hid ((w.alloc (.cells #[.slice none 0 0, .slice none 0 0] 34)).heap[q]? = some (.cells #[.slice none 0 0, .slice none 0 0] 34 (0, 0))) := by show _ = _; rw [← hq]; exact heap_alloc_new _ _
  have K0 := Lib.hid hk0
  have HWL : Hid ((w.alloc (.cells #[.slice none 0 0, .slice none 0 0] 34)).heap.size = q + 1) := by show _ = _; rw [← hq]; simp
  have HQ := Lib.hid hq
  have mkg := fun w => run_make_bytes (P := Tryz.prog) Tryz.underlying32 info5 g (by omega) w
  have mks := fun w => run_make_bytes (P := Tryz.prog) Tryz.underlying32 info5 s (by omega) w
  clear h hS hl hk0 hD
  go_enter Tryz.func60, Tryz.ntmps60
  go_upto_region 1 with fail
  clear hq
  generalize (w.alloc (.cells #[.slice none 0 0, .slice none 0 0] 34)) = wa at *
  go_wp2_with fail
  refine (rprows_any H.out hg).mono ?_
  rintro e w1 ⟨A, m, c, rfl, hr⟩
  obtain rfl : m = n := by rw [← HL.out.1]; exact hr.1.length.symm
  have K1 := Lib.hid hr.2.2
  have HRR := Lib.hid hr
  have HQ1 : Hid (w1.heap[q]? = some (.cells #[.slice none 0 0, .slice none 0 0] 34 (0, 0))) := (hr.2.2.block q (by have := HWL.out; omega)).trans HQ0.out
  have c0 := (H.out.keep K1.out).c0
  have c1' := (H.out.keep K1.out).c1
  have HBL : Hid (b < w1.heap.size ∧ q < w1.heap.size) := ⟨Nat.lt_of_lt_of_le (H.out.lt b H.out.fb) K1.out.size, by have := HWL.out; have := K1.out.size; omega⟩
  clear hr
  go_upto_region 5 with fail
  go_cut [7] (fun v wx => ∃ (qz : Nat) (A5 A6 : Option Addr), v = .pointer (some ⟨qz, 0, none⟩) ∧ Nought w1 wx qz g s A5 A6)
  case first =>
    have hbl : b < w1.heap.size := HBL.out.1
    have p0 : ∀ v t, (w1.alloc (.cells v t)).cell? ⟨b, 0, none⟩ = some (.int .i64 (g : Int)) := fun v t => (World.cell?_alloc_past _ _ _ hbl).trans c0
    have p1 : ∀ v t, (w1.alloc (.cells v t)).cell? ⟨b, 1, none⟩ = some (.int .i64 (s : Int)) := fun v t => (World.cell?_alloc_past _ _ _ hbl).trans c1'
    have p2 : ∀ v t v' t', ((w1.alloc (.cells v t)).alloc (.cells v' t')).cell? ⟨b, 0, none⟩ = some (.int .i64 (g : Int)) := fun v t v' t' => (World.cell?_alloc_past _ _ _ (show b < _ by simp; omega)).trans (p0 v t)
    have p3 : ∀ v t v' t', ((w1.alloc (.cells v t)).alloc (.cells v' t')).cell? ⟨b, 1, none⟩ = some (.int .i64 (s : Int)) := fun v t v' t' => (World.cell?_alloc_past _ _ _ (show b < _ by simp; omega)).trans (p1 v t)
    go_region
    all_goals
      go_wp2_with fail
      go_meet
      case rel =>
        first
          | exact ⟨_, _, _, rfl, nought_of (by omega) (three_allocs w1 _ _ _ _ _ _).1 (three_allocs w1 _ _ _ _ _ _).2.1 (three_allocs w1 _ _ _ _ _ _).2.2.1 (three_allocs w1 _ _ _ _ _ _).2.2.2 (by omega) (by omega) hg hs⟩
          | exact ⟨_, _, _, rfl, nought_of (by omega) (three_allocs w1 _ _ _ _ _ _).1 (three_allocs w1 _ _ _ _ _ _).2.2.1 (three_allocs w1 _ _ _ _ _ _).2.1 (three_allocs w1 _ _ _ _ _ _).2.2.2 (by omega) (by omega) hg hs⟩
          | exact ⟨_, _, _, rfl, nought_of (by omega) (three_allocs w1 _ _ _ _ _ _).2.1 (three_allocs w1 _ _ _ _ _ _).1 (three_allocs w1 _ _ _ _ _ _).2.2.1 (three_allocs w1 _ _ _ _ _ _).2.2.2 (by omega) (by omega) hg hs⟩
          | exact ⟨_, _, _, rfl, nought_of (by omega) (three_allocs w1 _ _ _ _ _ _).2.1 (three_allocs w1 _ _ _ _ _ _).2.2.1 (three_allocs w1 _ _ _ _ _ _).1 (three_allocs w1 _ _ _ _ _ _).2.2.2 (by omega) (by omega) hg hs⟩
          | exact ⟨_, _, _, rfl, nought_of (by omega) (three_allocs w1 _ _ _ _ _ _).2.2.1 (three_allocs w1 _ _ _ _ _ _).1 (three_allocs w1 _ _ _ _ _ _).2.1 (three_allocs w1 _ _ _ _ _ _).2.2.2 (by omega) (by omega) hg hs⟩
          | exact ⟨_, _, _, rfl, nought_of (by omega) (three_allocs w1 _ _ _ _ _ _).2.2.1 (three_allocs w1 _ _ _ _ _ _).2.1 (three_allocs w1 _ _ _ _ _ _).1 (three_allocs w1 _ _ _ _ _ _).2.2.2 (by omega) (by omega) hg hs⟩
  case rest =>
    obtain ⟨qz, A5, A6, rfl, hN⟩ := hcut
    have HN := Lib.hid hN
    have HC0 : Hid (CombI w1 wc qz w1.heap.size g s (vComb (g + s) B D 0) ⟨⟨A5, g, g, List.replicate g 0⟩, ⟨A6, s, s, List.replicate s 0⟩⟩) :=
      ⟨hN.row, rfl, rfl, hN.a.lies.mono fun x hx => hN.a.1.lt x hx, hN.b.lies.mono fun x hx => hN.b.1.lt x hx, by rw [vComb_zero, List.replicate_append_replicate], hN.keep⟩
    clear hN mkg mks c0 c1'
    go_wp2_with fail
    go_loopw [8] (fun i wr => ∃ (k : Nat) (p : PairV), k ≤ m ∧ i = .int .i64 k ∧ CombI w1 wr qz w1.heap.size g s (vComb (g + s) B D k) p) (fun i _ => m - (intOf i).toNat)
    case atStart => exact ⟨0, _, by omega, rfl, HC0.out⟩
    case round =>
      obtain ⟨k, p, hk, rfl, hI⟩ := hrel
      have HI := Lib.hid hI
      clear hI HC0
      by_cases hlt : k < m
      · obtain ⟨b2, o2, r, rfl, hb2, hr, hc1, hc3, hl2, hl3⟩ := (HRR.out.stIn.keep HI.out.keep).at_ hlt
        have hrm := List.mem_of_getElem? hr
        have hz := HL.out.2.2.2 r hrm
        have hsz := (HRR.out.2.1 r hrm).2
        have hBk : B.getD k [] = r.xs := by rw [← HL.out.2.1, List.getD_eq_getElem?_getD, List.getElem?_map, hr]; rfl
        have hltF : ∀ x, (F x ∨ (wa.heap.size ≤ x ∧ x < w1.heap.size)) → x < wr.heap.size := fun x hx => by
          have h1 := HI.out.keep.size
          rcases hx with e | e
          · have h2 := HF.out x e
            have h3 := K0.out.size
            have h4 := K1.out.size
            omega
          · omega
        have hra := hl2.bytes (B := wr.heap.size) hltF
        have hrb := hl3.bytes (B := wr.heap.size) hltF
        have hb2l : b2 < wr.heap.size := hltF b2 hb2
        obtain ⟨⟨rA, rn, rc, rx⟩, ⟨sA, sn, sc, sx⟩⟩ := r
        obtain ⟨z1, z2⟩ := hsz
        simp only at z1 z2 hra hrb hz
        obtain rfl : rn = g := z1
        obtain rfl : sn = s := z2
        obtain ⟨⟨pA, pn, pc, px⟩, ⟨tA, tn, tc, tx⟩⟩ := p
        obtain rfl : pn = rn := HI.out.an
        obtain rfl : tn = sn := HI.out.bn
        obtain ⟨b3, o3, rfl, hb3, cx⟩ := (HD.out.1.keep HD.out.2 (K0.out.trans (K1.out.trans HI.out.keep))).at_ hlt
        obtain ⟨v, hv⟩ : ∃ v, D.getD k 0 = v := ⟨_, rfl⟩
        have hvb : v < 256 := by rw [← hv]; exact HD.out.1.all.getD k
        rw [hv] at cx
        have hpa := HI.out.a.bytes (B := wr.heap.size) fun b hb => hb.2
        have hpb := HI.out.b.bytes (B := wr.heap.size) fun b hb => hb.2
        have HP : Hid (Bytes wr wr.heap.size pA pn px ∧ Bytes wr wr.heap.size tA tn tx ∧ Bytes wr wr.heap.size rA pn rx ∧ Bytes wr wr.heap.size sA tn sx) := ⟨hpa, hpb, hra, hrb⟩
        have HST : Hid (vComb (pn + tn) B D (k + 1) = vAddS (pn + tn) (vComb (pn + tn) B D k) (rx ++ sx) v) := by
          show _ = _
          rw [← vComb_succ, hBk, hv]; rfl
        have HV := Lib.hid (And.intro hvb hz)
        have y0 : wr.cell? ⟨qz, 0, none⟩ = some (.slice pA pn pc) := cell_of_row _ _ _ _ _ _ HI.out.row
        have y1 : wr.cell? ⟨qz, 1, none⟩ = some (.slice tA tn tc) := cell_of_row _ _ _ _ _ _ HI.out.row
        have HNQ : Hid (b2 ≠ qz ∧ b3 ≠ qz ∧ w1.heap.size ≤ qz) := by
          have h1 := HN.out.ge
          refine ⟨?_, ?_, h1⟩
          · rcases hb2 with e | e
            · have h2 := HF.out b2 e
              have h3 := K0.out.size
              have h4 := K1.out.size
              omega
            · omega
          · have h3 := K0.out.size
            have h4 := K1.out.size
            have := HD.out.2
            omega
        have HLL : Hid (b2 < wr.heap.size ∧ b3 < wr.heap.size) := ⟨hb2l, by have h3 := (K0.out.trans (K1.out.trans HI.out.keep)).size; have := HD.out.2; omega⟩
        have e1 : (0 : Int) ≤ (k : Int) := Int.natCast_nonneg _
        have e2 : (k : Int) < (m : Int) := by omega
        have HLT : Hid (k < m) := hlt
        clear hr hrm hBk hltF hra hrb hb2l hb2 hl2 hl3 hv hvb hpa hpb hz hb3 hlt
        go_wp2_with fail
        refine wp_region_noPanic ?_
        refine wp_region_held_drew (S := fun wz => wz.cell? ⟨b2, o2 + k * 2, none⟩ = some (.slice rA pn rc) ∧ wz.cell? ⟨b2, o2 + k * 2 + 1, none⟩ = some (.slice sA tn sc) ∧ wz.cell? ⟨b3, o3 + k, none⟩ = some (.int .u8 (v : Int))) (by kernel_rfl) ⟨hc1, hc3, cx⟩ (fun hHeld => ?_)
        refine wpAnyH_take (i := 1) (v := ?_) rfl (by kernel_rfl) (by kernel_rfl) (by kernel_rfl) (fun _ _ _ h => h) (Or.inl ⟨by rfl, ?_⟩) hHeld ?_
        rotate_left
        · intro wq hSw
          go_simp
          all_goals with_reducible rfl
        try simp only [Act.put, List.getElem_toArray, List.getElem_cons_succ, List.getElem_cons_zero, List.setIfInBounds_toArray, List.set_cons_zero, List.set_cons_succ]
        refine wpAnyH_take (i := 2) (v := ?_) rfl (by kernel_rfl) (by kernel_rfl) (by kernel_rfl) (fun _ _ _ h => h) (Or.inl ⟨by rfl, ?_⟩) hHeld ?_
        rotate_left
        · intro wq hSw
          go_simp
          all_goals with_reducible rfl
        try simp only [Act.put, List.getElem_toArray, List.getElem_cons_succ, List.getElem_cons_zero, List.setIfInBounds_toArray, List.set_cons_zero, List.set_cons_succ]
        refine wpAnyH_take (i := 3) (v := ?_) rfl (by kernel_rfl) (by kernel_rfl) (by kernel_rfl) (fun _ _ _ h => h) (Or.inl ⟨by rfl, ?_⟩) hHeld ?_
        rotate_left
        · intro wq hSw
          go_simp
          all_goals with_reducible rfl
        try simp only [Act.put, List.getElem_toArray, List.getElem_cons_succ, List.getElem_cons_zero, List.setIfInBounds_toArray, List.set_cons_zero, List.set_cons_succ]
        refine wpAnyH_take (i := 4) (v := ?_) rfl (by kernel_rfl) (by kernel_rfl) (by kernel_rfl) (fun _ _ _ h => h) (Or.inl ⟨by rfl, ?_⟩) hHeld ?_
        rotate_left
        · intro wq hSw
          have q0 := hSw.1
          have q1 := hSw.2.1
          have q2 := hSw.2.2
          go_simp
          all_goals with_reducible rfl
        try simp only [Act.put, List.getElem_toArray, List.getElem_cons_succ, List.getElem_cons_zero, List.setIfInBounds_toArray, List.set_cons_zero, List.set_cons_succ]
        refine wpAnyH_take (i := 5) (v := ?_) rfl (by kernel_rfl) (by kernel_rfl) (by kernel_rfl) (fun _ _ _ h => h) (Or.inl ⟨by rfl, ?_⟩) hHeld ?_
        rotate_left
        · intro wq hSw
          go_simp
          all_goals with_reducible rfl
        try simp only [Act.put, List.getElem_toArray, List.getElem_cons_succ, List.getElem_cons_zero, List.setIfInBounds_toArray, List.set_cons_zero, List.set_cons_succ]
        refine wpAnyH_take (i := 6) (v := ?_) rfl (by kernel_rfl) (by kernel_rfl) (by kernel_rfl) (fun _ _ _ h => h) (Or.inl ⟨by rfl, ?_⟩) hHeld ?_
        rotate_left
        · intro wq hSw
          go_simp
          all_goals with_reducible rfl
        try simp only [Act.put, List.getElem_toArray, List.getElem_cons_succ, List.getElem_cons_zero, List.setIfInBounds_toArray, List.set_cons_zero, List.set_cons_succ]
        refine wpAnyH_take (i := 7) (v := ?_) rfl (by kernel_rfl) (by kernel_rfl) (by kernel_rfl) (fun _ _ _ h => h) (Or.inl ⟨by rfl, ?_⟩) hHeld ?_
        rotate_left
        · intro wq hSw
          go_simp
          all_goals with_reducible rfl
        try simp only [Act.put, List.getElem_toArray, List.getElem_cons_succ, List.getElem_cons_zero, List.setIfInBounds_toArray, List.set_cons_zero, List.set_cons_succ]
        refine wpAnyH_take (i := 8) (v := ?_) rfl (by kernel_rfl) (by kernel_rfl) (by kernel_rfl) (fun _ _ _ h => h) (Or.inl ⟨by rfl, ?_⟩) hHeld ?_
        rotate_left
        · intro wq hSw
          have q0 := hSw.1
          have q1 := hSw.2.1
          have q2 := hSw.2.2
          go_simp
          all_goals with_reducible rfl
        try simp only [Act.put, List.getElem_toArray, List.getElem_cons_succ, List.getElem_cons_zero, List.setIfInBounds_toArray, List.set_cons_zero, List.set_cons_succ]
        refine wpAnyH_ready (rs := [0]) (by kernel_rfl) (by simp) ?_
        refine AllReadyH.cons rfl (fun K hK => ?_) AllReadyH.nil
        go_simp
        refine hK.out _ _ ⟨hc1, hc3, cx⟩ (fun hHeld => ?_)
        clear hK K
        try simp only [Act.put, List.getElem_toArray, List.getElem_cons_succ, List.getElem_cons_zero, List.setIfInBounds_toArray, List.set_cons_zero, List.set_cons_succ]
        refine wpAnyH_ready (rs := [9]) (by kernel_rfl) (by simp) ?_
        refine AllReadyH.cons rfl (fun K hK => ?_) AllReadyH.nil
        go_simp
        refine (rpplus_any pn tn v ⟨⟨pA, pn, pc, px⟩, ⟨tA, tn, tc, tx⟩⟩ ⟨⟨rA, pn, rc, rx⟩, ⟨sA, tn, sc, sx⟩⟩ wr.drew ⟨HP.out.1.keep (Nat.le_refl _) (Keep.refl wr).drew, HP.out.2.1.keep (Nat.le_refl _) (Keep.refl wr).drew, rfl, rfl⟩ ⟨HP.out.2.2.1.keep (Nat.le_refl _) (Keep.refl wr).drew, HP.out.2.2.2.keep (Nat.le_refl _) (Keep.refl wr).drew, rfl, rfl⟩ hg hs HV.out.1).mono ?_
        rintro e w4 ⟨⟨⟨A7, n7, c7, x7⟩, ⟨A8, n8, c8, x8⟩⟩, he, hC⟩
        replace he : e = .returned (.agg #[.slice A7 n7 c7, .slice A8 n8 c8]) := he
        subst he
        have HC := Lib.hid hC
        have K4 : Hid (Keep wr w4) := (Keep.drew (Keep.refl wr)).trans hC.keep
        have hc1' := (K4.out.cell (p := ⟨b2, o2 + k * 2, none⟩) HLL.out.1).trans hc1
        have hc3' := (K4.out.cell (p := ⟨b2, o2 + k * 2 + 1, none⟩) HLL.out.1).trans hc3
        have cx' := (K4.out.cell (p := ⟨b3, o3 + k, none⟩) HLL.out.2).trans cx
        clear hC
        refine hK.out _ _ ⟨hc1', hc3', cx'⟩ (fun hHeld => ?_)
        clear hK K
        try simp only [Act.put, List.getElem_toArray, List.getElem_cons_succ, List.getElem_cons_zero, List.setIfInBounds_toArray, List.set_cons_zero, List.set_cons_succ]
        have H4 : Hid (w4.heap[qz]? = some (.cells #[.slice pA pn pc, .slice tA tn tc] 34 (0, 0))) := (K4.out.block qz (Array.getElem?_eq_some_iff.1 HI.out.row).1).trans HI.out.row
        have z0 : w4.cell? ⟨qz, 0, none⟩ = some (.slice pA pn pc) := cell_of_row _ _ _ _ _ _ H4.out
        have z1 : w4.cell? ⟨qz, 1, none⟩ = some (.slice tA tn tc) := cell_of_row _ _ _ _ _ _ H4.out
        have f0 : w4.frozen? ⟨qz, 0, none⟩ = false := by simp [World.frozen?, H4.out]
        have f1 : w4.frozen? ⟨qz, 1, none⟩ = false := by simp [World.frozen?, H4.out]
        refine wpAnyH_ready (rs := [10]) (by kernel_rfl) (by simp) ?_
        refine AllReadyH.cons rfl (fun K hK => ?_) AllReadyH.nil
        go_simp
        have T6 : Turned (fun b => b = qz) w4 ((w4.setCell ⟨qz, 0, none⟩ (.slice A7 n7 c7)).setCell ⟨qz, 1, none⟩ (.slice A8 n8 c8)) :=
          (Turned.set (F := fun b => b = qz) w4 ⟨qz, 0, none⟩ (.slice A7 n7 c7) rfl).trans (Turned.set (F := fun b => b = qz) _ ⟨qz, 1, none⟩ (.slice A8 n8 c8) rfl) fun _ e => Or.inl e
        have HBK := Lib.hid (bset (i := 1) (bset (i := 0) H4.out (.slice A7 n7 c7)) (.slice A8 n8 c8))
        have HT6 := Lib.hid T6
        have hc1'' := T6.cell hc1' HNQ.out.1
        have hc3'' := T6.cell hc3' HNQ.out.1
        have cx'' := T6.cell cx' HNQ.out.2.1
        clear T6
        refine hK.out _ _ ⟨hc1'', hc3'', cx''⟩ (fun hHeld => ?_)
        clear hK K
        try simp only [Act.put, List.getElem_toArray, List.getElem_cons_succ, List.getElem_cons_zero, List.setIfInBounds_toArray, List.set_cons_zero, List.set_cons_succ]
        refine wpAnyH_done (by kernel_rfl) ?_ _
        refine NoPanic.normal ?_
        clear hHeld
        clear hc1'' hc3'' cx'' hc1' hc3' cx' z0 z1 f0 f1 y0 y1 hc1 hc3 cx
        go_wp2_with fail
        go_roundw
        case rel => exact ⟨k + 1, ⟨⟨A7, n7, c7, x7⟩, ⟨A8, n8, c8, x8⟩⟩, by have := HLT.out; omega, by go_num, HI.out.put (p' := ⟨⟨A7, n7, c7, x7⟩, ⟨A8, n8, c8, x8⟩⟩) HBK.out HT6.out K4.out HC.out HI.out.keep.size HNQ.out.2.2 (by
          rw [show x7 = _ from HC.out.ax, show x8 = _ from HC.out.bx]
          exact pair_cut (p := ⟨⟨rA, pn, rc, rx⟩, ⟨sA, tn, sc, sx⟩⟩) HP.out.1.length HI.out.xs HV.out.2.1 HST.out)⟩
        case measure => have := HLT.out; simp [intOf]; omega
      · obtain rfl : k = m := by omega
        obtain ⟨⟨pA, pn, pc, px⟩, ⟨tA, tn, tc, tx⟩⟩ := p
        obtain rfl : pn = g := HI.out.an
        obtain rfl : tn = s := HI.out.bn
        have y0 : wr.cell? ⟨qz, 0, none⟩ = some (.slice pA pn pc) := cell_of_row _ _ _ _ _ _ HI.out.row
        have y1 : wr.cell? ⟨qz, 1, none⟩ = some (.slice tA tn tc) := cell_of_row _ _ _ _ _ _ HI.out.row
        have HQ2 : Hid (wr.heap[q]? = some (.cells #[.slice none 0 0, .slice none 0 0] 34 (0, 0))) := (HI.out.keep.block q HBL.out.2).trans HQ1.out
        have z0 : wr.cell? ⟨q, 0, none⟩ = some (.slice none 0 0) := cell_of_row _ _ _ _ _ _ HQ2.out
        have z1 : wr.cell? ⟨q, 1, none⟩ = some (.slice none 0 0) := cell_of_row _ _ _ _ _ _ HQ2.out
        have f0 : wr.frozen? ⟨q, 0, none⟩ = false := by simp [World.frozen?, HQ2.out]
        have f1 : wr.frozen? ⟨q, 1, none⟩ = false := by simp [World.frozen?, HQ2.out]
        go_wp2_with fail
        have T6 : Turned (fun b => b = q) wr ((wr.setCell ⟨q, 0, none⟩ (.slice pA pn pc)).setCell ⟨q, 1, none⟩ (.slice tA tn tc)) :=
          (Turned.set (F := fun b => b = q) wr ⟨q, 0, none⟩ (.slice pA pn pc) rfl).trans (Turned.set (F := fun b => b = q) _ ⟨q, 1, none⟩ (.slice tA tn tc) rfl) fun _ e => Or.inl e
        have hb := bset (i := 1) (bset (i := 0) HQ2.out (.slice pA pn pc)) (.slice tA tn tc)
        have hd : ∀ b, (w1.heap.size ≤ b ∧ b < wr.heap.size) → ¬ b = q := fun b hb => by have := HBL.out.2; omega
        have hm : ∀ b, (w1.heap.size ≤ b ∧ b < wr.heap.size) → (w.heap.size ≤ b ∧ b < ((wr.setCell ⟨q, 0, none⟩ (.slice pA pn pc)).setCell ⟨q, 1, none⟩ (.slice tA tn tc)).heap.size) := fun b hb => ⟨by have h3 := K0.out.size; have h4 := K1.out.size; omega, Nat.lt_of_lt_of_le hb.2 T6.size⟩
        refine bodyPost_ret (v := .tuple #[.agg #[.slice pA pn pc, .slice tA tn tc], .int .i64 0]) ?_ rfl ⟨⟨⟨pA, pn, pc, px⟩, ⟨tA, tn, tc, tx⟩⟩, rfl, rfl, rfl, (HI.out.a.turned T6 hd).mono hm, (HI.out.b.turned T6 hd).mono hm, ?_, T6.keep (K0.out.trans (K1.out.trans HI.out.keep)) fun i e => by rw [e, HQ.out]; exact Nat.le_refl _⟩
        · exact results_cell_tmp (p := 4) (u := 5) (ty := 34) rfl _ _ q 34 _ (0, 0) _ rfl hb Tryz.underlying34 rfl infoRowSize
        · rw [← HL.out.2.2.1]; exact HI.out.xs
end
end Go.Proofs.YtcjjhblgejkkeaaGreat
/- The document's own basis: Solve, Same; a row in new memory. -/
namespace Go.Proofs.YtcjjhblgejkkeaaGreat
open Go.RowKit Lin
set_option linter.unusedVariables false
set_option linter.unusedSimpArgs false
theorem selP_len (h : List Bool) : ∀ c : List PairV, (selP h c).length ≤ h.length := by
  induction h with
  | nil => intro c; exact Nat.le_refl _
  | cons x a ih =>
    intro c
    cases c with
    | nil => exact Nat.zero_le _
    | cons p c =>
      have := ih c
      cases x <;> simp [selP] <;> omega
section
variable {w : World} {F G : Nat → Prop} {b g s bi br : Nat} {iv : List Bool} {R : List PairV} {B : List (List Nat)}
set_option maxRecDepth 100000 in
theorem rpsolve_low (h : RefR w F b g s bi br iv R) (hS : Slots g s iv R B) (hg : g ≤ 255) (hlt : B.length < g) :
    Calls Tryz.prog 64 #[.pointer (some ⟨b, 0, none⟩)] w fun e w' => e = .returned (.tuple #[.slice none 0 0, .int .i64 24]) ∧ Keep w w' := by
  have hl : (selP iv R).length = B.length := by rw [← hS.sel, List.length_map]
  have HL := Lib.hid (And.intro hl hlt)
  have H := Lib.hid h
  clear h hS hl hlt
  go_enter Tryz.func64, Tryz.ntmps64
  go_wp2_with fail
  refine (rprows_any H.out hg).mono ?_
  rintro e w1 ⟨A, m, c, rfl, hr⟩
  have hm : m = B.length := by rw [← HL.out.1]; exact hr.1.length.symm
  have c0 := (H.out.keep hr.2.2).c0
  have K1 := Lib.hid hr.2.2
  have e1 : (m : Int) < (g : Int) := by have := HL.out.2; omega
  clear hr hm
  go_wp2_with fail
  go_ret2
  exact ⟨rfl, K1.out⟩
set_option maxRecDepth 100000 in
set_option maxHeartbeats 2000000 in
theorem rpsolve_in (h : RefR w F b g s bi br iv R) (hS : Slots g s iv R B) (hg : g ≤ 255) (hge : B.length = g) :
    Calls Tryz.prog 64 #[.pointer (some ⟨b, 0, none⟩)] w fun e w' => ∃ A c rs, e = .returned (.tuple #[.slice A g c, .int .i64 0]) ∧ OwnRows w' w.heap.size 32 A g c rs ∧ (∀ r ∈ rs, LiesIn w' F r) ∧ rowsXs rs = B.map (List.drop g) ∧ Keep w w' := by
  have hl : (selP iv R).length = B.length := by rw [← hS.sel, List.length_map]
  have hlen : ∀ p ∈ selP iv R, p.a.xs.length = g := fun p hp => by
    obtain ⟨k, hk⟩ := List.getElem?_of_mem hp
    obtain ⟨i, h1, h2⟩ := selP_mem iv R k p hk
    exact (hS.size i p h1 h2).1
  have HL := Lib.hid (And.intro hl (And.intro hS.sel hlen))
  have H := Lib.hid h
  have HGE := Lib.hid hge
  clear h hS hl hge hlen
  go_enter Tryz.func64, Tryz.ntmps64
  go_wp2_with fail
  refine (rprows_any H.out hg).mono ?_
  rintro e w1 ⟨A, m, c, rfl, hr⟩
  obtain rfl : m = g := by rw [← HGE.out, ← HL.out.1]; exact hr.1.length.symm
  have c0 := (H.out.keep hr.2.2).c0
  have K1 := Lib.hid hr.2.2
  have HRR := Lib.hid hr
  have e1 : ¬ (m : Int) < (m : Int) := by omega
  clear hr
  go_wp2_with fail
  clear c0
  go_loopw [5, 6] (fun l i wr => ∃ (k c : Nat) (A : Option Addr) (rs : List RowV), k ≤ m ∧ i = .int .i64 k ∧ l = .slice A k c ∧ OwnRows wr w1.heap.size 32 A k c rs ∧ (∀ r ∈ rs, LiesIn w1 F r) ∧ rowsXs rs = (B.take k).map (List.drop m) ∧ Keep w1 wr) (fun _ i _ => m - (intOf i).toNat)
  case atStart => exact ⟨0, 0, none, [], by omega, rfl, rfl, OwnRows.none_ _ _ _, fun r hr => by simp at hr, by simp [rowsXs], Keep.refl _⟩
  case round =>
    obtain ⟨k, cl, Al, rs, hk, rfl, rfl, ho, hrs, hxs, hK⟩ := hrel
    have HO := Lib.hid ho
    have HK := Lib.hid hK
    have HRS := Lib.hid (And.intro hrs hxs)
    clear ho hK hrs hxs
    by_cases hlt : k < m
    · obtain ⟨b2, o2, r, rfl, hb2, hr, hc1, hc3, hl2, hl3⟩ := (HRR.out.stIn.keep HK.out).at_ hlt
      have hrm := List.mem_of_getElem? hr
      have hBk : B[k]? = some r.xs := by rw [← HL.out.2.1, List.getElem?_map, hr]; rfl
      have hdr : r.b.xs = r.xs.drop m := by rw [PairV.xs, List.drop_left' (HL.out.2.2 r hrm)]
      have hlb := (HRR.out.2.1 r hrm).1.2
      obtain ⟨⟨rA, rn, rc, rx⟩, ⟨sA, sn, sc, sx⟩⟩ := r
      have HR2 := Lib.hid (And.intro hBk (And.intro hdr hlb))
      have HO2 := Lib.hid (HO.out.keep ((Keep.refl wr).alloc #[.slice sA sn sc] 32))
      have KA : Hid (Keep wr (wr.alloc (.cells #[.slice sA sn sc] 32))) := (Keep.refl wr).alloc _ _
      have HN0 : Hid ((wr.alloc (.cells #[.slice sA sn sc] 32)).cell? ⟨wr.heap.size, 0, none⟩ = some (.slice sA sn sc)) := cell_of_row _ _ _ _ _ _ (heap_alloc_new wr _)
      have e2 : (0 : Int) ≤ (k : Int) := Int.natCast_nonneg _
      have e3 : (k : Int) < (m : Int) := by omega
      have HLT : Hid (k < m) := hlt
      clear hr hrm hBk hdr hlb hb2 hl2 hl3 hlt
      go_wp2_with (at_builtin; refine wpList_append_row rfl _ _ 47 rfl ⟨sA, sn, sc, sx⟩ Tryz.underlying47 infoRow rfl HO2.out rfl HN0.out (by have := HLT.out; omega) (by have h1 := HK.out.size; have h2 := KA.out.size; omega) ?_)
      intro A2 c2 w2 h2 g2 _
      have HOO := Lib.hid h2
      have K2 : Hid (Keep w1 w2) := (HK.out.trans KA.out).grown g2 (fun i e => (HO.out.lt i e).1)
      clear h2 g2
      go_wp2_with fail
      go_roundw
      case rel => exact ⟨k + 1, c2, A2, _, by have := HLT.out; omega, by go_num, rfl, HOO.out, fun r hr => by
        rcases List.mem_append.1 hr with e | e
        · exact HRS.out.1 r e
        · rw [List.mem_singleton.1 e]; exact HR2.out.2.2, by
        have e := HRS.out.2
        rw [rowsXs] at e ⊢
        rw [List.map_append, e, List.take_add_one, HR2.out.1, Option.toList_some, List.map_append, List.map_singleton, List.map_singleton, ← HR2.out.2.1], K2.out⟩
      case measure => have := HLT.out; simp [intOf]; omega
    · obtain rfl : k = m := by omega
      go_wp2_with fail
      go_ret2
      refine ⟨Al, cl, rs, rfl, HO.out.lowerB K1.out.size, fun r hr => (HRS.out.1 r hr).turned (Turned.of_keep (F := fun _ => False) HK.out) fun _ _ e => e, ?_, K1.out.trans HK.out⟩
      rw [HRS.out.2, List.take_of_length_le (by rw [HGE.out]; exact Nat.le_refl _)]
end
theorem LiesIn.strP {w : World} {F : Nat → Prop} {r : RowV} (h : LiesIn w F r) (hF : ∀ b, F b → b < w.heap.size) (k : Nat) : (convert 32 9 (.slice r.A r.n r.c)).run Tryz.prog (w.drewN k) = .ok (.string (strN r.xs)) (w.drewN k) :=
  run_str (w := w.drewN k) (h.bytes hF) Tryz.underlying32 Tryz.underlying5 Tryz.underlying9 r.c
set_option maxRecDepth 100000 in
set_option maxHeartbeats 2000000 in
theorem rpsame_any (n m ca cb : Nat) (A A' : Option Addr) (F F' : Nat → Prop) (ps qs : List PairV) (w : World) (h : StIn w F A n ps) (h' : StIn w F' A' m qs) (hF : ∀ b, F b → b < w.heap.size) (hF' : ∀ b, F' b → b < w.heap.size) (hn : n ≤ 1000000) :
    Calls Tryz.prog 23 #[.slice A n ca, .slice A' m cb] w fun e w' => e = .returned (.bool (decide (pairXs ps = pairXs qs))) ∧ ∃ k, w' = w.drewN k := by
  have H := Lib.hid h
  have H' := Lib.hid h'
  by_cases hnm : n = m
  · subst hnm
    clear h h'
    go_enter Tryz.func23, Tryz.ntmps23
    go_wp2_with fail
    go_loopw [5] (fun i wr => ∃ (j k : Nat), j ≤ n ∧ i = .int .i64 j ∧ wr = w.drewN k ∧ pairXs (ps.take j) = pairXs (qs.take j)) (fun i _ => n - (intOf i).toNat)
    case atStart => exact ⟨0, 0, by omega, rfl, rfl, rfl⟩
    case round =>
      obtain ⟨j, k, hj, rfl, rfl, he⟩ := hrel
      have HE := Lib.hid he
      clear he
      by_cases hlt : j < n
      · obtain ⟨b, off, p, rfl, hb, hr, hc, hcb, hl, hlb⟩ := H.out.at_ hlt
        obtain ⟨b', off', q, rfl, hb', hr', hc', hcb', hl', hlb'⟩ := H'.out.at_ hlt
        have HR := Lib.hid hr
        have HR' := Lib.hid hr'
        have t1 := hl.strP hF
        have t2 := hl'.strP hF'
        have t3 := hlb.strP hF
        have t4 := hlb'.strP hF'
        have d1 : ∀ q, (w.drewN q).cell? ⟨b, off + j * 2, none⟩ = some (.slice p.a.A p.a.n p.a.c) := fun _ => hc
        have d2 : ∀ x, (w.drewN x).cell? ⟨b', off' + j * 2, none⟩ = some (.slice q.a.A q.a.n q.a.c) := fun _ => hc'
        have d3 : ∀ q, (w.drewN q).cell? ⟨b, off + j * 2 + 1, none⟩ = some (.slice p.b.A p.b.n p.b.c) := fun _ => hcb
        have d4 : ∀ x, (w.drewN x).cell? ⟨b', off' + j * 2 + 1, none⟩ = some (.slice q.b.A q.b.n q.b.c) := fun _ => hcb'
        have e1 : (0 : Int) ≤ (j : Int) := Int.natCast_nonneg _
        have e2 : (j : Int) < (n : Int) := by omega
        have hall := And.intro hl.2.1 (And.intro hl'.2.1 (And.intro hlb.2.1 hlb'.2.1))
        by_cases hx : p.a.xs = q.a.xs
        · by_cases hy : p.b.xs = q.b.xs
          · have q0 := strN_eq hx
            have q1 := strN_eq hy
            have HX : Hid ((p.a.xs, p.b.xs) = (q.a.xs, q.b.xs)) := by show _ = _; rw [hx, hy]
            clear hr hr' hl hl' hlb hlb' hc hc' hcb hcb' hall hx hy
            go_wp2_with fail
            go_quiet (fail)
            go_wp2_with fail
            go_roundw
            case rel => exact ⟨j + 1, k + nq, by omega, by go_num, rfl, by rw [pairXs_take HR.out, pairXs_take HR'.out, HE.out, HX.out]⟩
            case measure => simp [intOf]; omega
          · have q0 := strN_eq hx
            have q1 := strN_ne hall.2.2.1 hall.2.2.2 hy
            have HC : Hid (decide (pairXs ps = pairXs qs) = false) := by show _ = _; exact decide_eq_false (pairXs_ne hr hr' fun e => hy (congrArg Prod.snd e))
            clear hr hr' hl hl' hlb hlb' hc hc' hcb hcb' hall hx hy
            go_wp2_with fail
            go_quiet (fail)
            go_wp2_with fail
            go_ret
            exact ⟨by rw [HC.out]; rfl, _, World.drewN_drewN ..⟩
        · have q0 := strN_ne hall.1 hall.2.1 hx
          have HC : Hid (decide (pairXs ps = pairXs qs) = false) := by show _ = _; exact decide_eq_false (pairXs_ne hr hr' fun e => hx (congrArg Prod.fst e))
          clear hr hr' hl hl' hlb hlb' hc hc' hcb hcb' hall hx
          go_wp2_with fail
          go_quiet (fail)
          go_wp2_with fail
          go_ret
          exact ⟨by rw [HC.out]; rfl, _, World.drewN_drewN ..⟩
      · obtain rfl : j = n := by omega
        have HC : Hid (decide (pairXs ps = pairXs qs) = true) := by
          show _ = _
          have e := HE.out
          rw [List.take_of_length_le (by rw [H.out.1]; exact Nat.le_refl _), List.take_of_length_le (by rw [H'.out.1]; exact Nat.le_refl _)] at e
          exact decide_eq_true e
        go_wp2_with fail
        go_ret
        exact ⟨by rw [HC.out]; rfl, _, rfl⟩
  · have HC : Hid (decide (pairXs ps = pairXs qs) = false) := by
      show _ = _
      exact decide_eq_false fun e => hnm (by rw [← h.1, ← h'.1]; have := congrArg List.length e; simpa [pairXs] using this)
    have b1 : ((n : Int) != (m : Int)) = true := by rw [bne_iff_ne]; omega
    clear h h' hnm hF hF'
    go_enter Tryz.func23, Tryz.ntmps23
    go_wp2_with fail
    go_ret
    exact ⟨by rw [HC.out]; rfl, 0, rfl⟩
end Go.Proofs.YtcjjhblgejkkeaaGreat
