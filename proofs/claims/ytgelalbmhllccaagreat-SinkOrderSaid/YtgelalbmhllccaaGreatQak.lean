/- Lists of generations, each with where its basis lies. -/
import Derived.Test.YtgelalbmhllccaaGreatQaj
import Derived.Test.YtgelalbmhllccaaGreatQab
import Derived.Test.YtgelalbmhllccaaGreatQaf
import Derived.RowKit3
import Derived.Test.YtgelalbmhllccaaGreatQag
import Derived.Deep.DeepCutAuto
import Derived.Deep.CutBlock
import Derived.Test.YtgelalbmhllccaaGreatQah
import Derived.Test.YtgelalbmhllccaaGreatQai
import Derived.BigQuiet
import Derived.Test.YtgelalbmhllccaaGreatQad
namespace Go.Proofs.YtgelalbmhllccaaGreat
open Go.RowKit Lin
set_option linter.unusedVariables false
set_option linter.unusedSimpArgs false
/-- A generation, and where its basis lies. -/
def gnVals (x : Nat × Nat) : List Value := [.int .u64 (x.1 : Int), .pointer (some ⟨x.2, 0, none⟩)]
theorem gn_len (l : List (Nat × Nat)) : (l.flatMap gnVals).length = l.length * 2 := by
  induction l with
  | nil => rfl
  | cons p l ih => rw [List.flatMap_cons, List.length_append, ih, List.length_cons]; simp [gnVals]; omega
theorem gn_at : ∀ (l : List (Nat × Nat)) (i : Nat) (x : Nat × Nat), l[i]? = some x → (l.flatMap gnVals)[i * 2]? = some (.int .u64 (x.1 : Int)) ∧ (l.flatMap gnVals)[i * 2 + 1]? = some (.pointer (some ⟨x.2, 0, none⟩))
  | [], i, p, h => by simp at h
  | q :: l, 0, p, h => by
    simp at h
    subst h
    exact ⟨rfl, rfl⟩
  | q :: l, i + 1, p, h => by
    have ih := gn_at l i p (by simpa using h)
    have e : ((q :: l).flatMap gnVals) = Value.int .u64 (q.1 : Int) :: Value.pointer (some ⟨q.2, 0, none⟩) :: l.flatMap gnVals := rfl
    rw [e, show (i + 1) * 2 = i * 2 + 1 + 1 by omega]
    simpa using ih
/-- Such a list, to be read. -/
def GnIn (w : World) (F : Nat → Prop) (A : Option Addr) (n : Nat) (l : List (Nat × Nat)) : Prop :=
  l.length = n ∧ (0 < n → ∃ b off, A = some ⟨b, off, none⟩ ∧ F b ∧ b < w.heap.size ∧ ∀ (i : Nat) (x : Nat × Nat), l[i]? = some x → w.cell? ⟨b, off + i * 2, none⟩ = some (.int .u64 (x.1 : Int)) ∧ w.cell? ⟨b, off + i * 2 + 1, none⟩ = some (.pointer (some ⟨x.2, 0, none⟩)))
theorem GnIn.turned {w w' : World} {F G : Nat → Prop} {A : Option Addr} {n : Nat} {l : List (Nat × Nat)} (h : GnIn w F A n l) (k : Turned G w w') (hd : ∀ b, F b → ¬ G b) : GnIn w' F A n l := ⟨h.1, fun hn => by
  obtain ⟨b, off, e, hb, hl, hc⟩ := h.2 hn
  exact ⟨b, off, e, hb, Nat.lt_of_lt_of_le hl k.size, fun i x hi => ⟨k.cell (hc i x hi).1 (hd b hb), k.cell (hc i x hi).2 (hd b hb)⟩⟩⟩
theorem GnIn.keep {w w' : World} {F : Nat → Prop} {A : Option Addr} {n : Nat} {l : List (Nat × Nat)} (h : GnIn w F A n l) (k : Keep w w') : GnIn w' F A n l := h.turned (Turned.of_keep (F := fun _ => False) k) fun _ _ e => e
theorem GnIn.nil (w : World) (F : Nat → Prop) (A : Option Addr) : GnIn w F A 0 [] := ⟨rfl, fun h => absurd h (by omega)⟩
theorem GnIn.at_ {w : World} {F : Nat → Prop} {A : Option Addr} {n : Nat} {l : List (Nat × Nat)} (h : GnIn w F A n l) {i : Nat} (hi : i < n) : ∃ b off x, A = some ⟨b, off, none⟩ ∧ F b ∧ b < w.heap.size ∧ l[i]? = some x ∧ w.cell? ⟨b, off + i * 2, none⟩ = some (.int .u64 (x.1 : Int)) ∧ w.cell? ⟨b, off + i * 2 + 1, none⟩ = some (.pointer (some ⟨x.2, 0, none⟩)) := by
  obtain ⟨b, off, e, hb, hl, hc⟩ := h.2 (by omega)
  have hi' : i < l.length := by rw [h.1]; exact hi
  exact ⟨b, off, l[i], e, hb, hl, List.getElem?_eq_getElem hi', (hc i _ (List.getElem?_eq_getElem hi')).1, (hc i _ (List.getElem?_eq_getElem hi')).2⟩
/-- Such a list of one's own. -/
def OwnGn (w : World) (base : Nat) (A : Option Addr) (n c : Nat) (l : List (Nat × Nat)) : Prop := w.ownsRow base 120 2 (.slice A n c) n (l.flatMap gnVals)
namespace OwnGn
variable {w w' : World} {base n c : Nat} {A : Option Addr} {l : List (Nat × Nat)}
theorem length (h : OwnGn w base A n c l) : l.length = n := by have := h.1; rw [gn_len] at this; omega
theorem none_ (w : World) (base : Nat) : OwnGn w base none 0 0 [] := World.ownsRow_nil w base _ 2
theorem rowLe (h : OwnGn w base A n c l) : ∀ k, (Value.slice A n c).ownBlock = some k → base ≤ k := fun k hk => (World.ownsRow.lt h k hk).1
theorem keep (h : OwnGn w base A n c l) (k : Keep w w') : OwnGn w' base A n c l :=
  h.kept (row := none) ⟨k.os, k.tape, k.output, k.size, fun i hi _ => k.block i hi⟩ (by
    cases hb : (Value.slice A n c).ownBlock with
    | none => exact Or.inl rfl
    | some g => exact Or.inr (by simp))
theorem alloc (h : OwnGn w base A n c l) (o : Obj) : OwnGn (w.alloc o) base A n c l := World.ownsRow.alloc h o
theorem lower {base' : Nat} (h : OwnGn w base A n c l) (hb : base' ≤ base) : OwnGn w base' A n c l := by
  refine ⟨h.1, ?_⟩
  rcases h.2 with h1 | ⟨g, cap, cur, hv, hg, r⟩
  · exact Or.inl h1
  · exact Or.inr ⟨g, cap, cur, hv, Nat.le_trans hb hg, r⟩
theorem ins (h : OwnGn w base A n c l) : GnIn w (fun b => base ≤ b) A n l := by
  refine ⟨h.length, fun hn => ?_⟩
  rcases h.2 with ⟨hv, h0⟩ | ⟨g, cap, cur, hv, hg, hh, _⟩
  · omega
  · injection hv with h1 h2 h3
    subst h1
    refine ⟨g, 0, rfl, hg, (Array.getElem?_eq_some_iff.1 hh).1, fun i x hi => ?_⟩
    obtain ⟨v1, v2⟩ := gn_at l i x hi
    have c1 := World.ownsRow.cells h (g := g) rfl _ _ v1
    have c2 := World.ownsRow.cells h (g := g) rfl _ _ v2
    have ha : ∀ j, (⟨g, 0, none⟩ : Addr).add j = ⟨g, 0 + j, none⟩ := fun j => by unfold Addr.add; split <;> simp_all
    rw [ha] at c1 c2
    exact ⟨c1, c2⟩
end OwnGn
/-- The address of a slice of rows cut at its head. -/
def dropG (A : Option Addr) (c s : Nat) : Option Addr := if c = s then A else A.map (·.add (s * 2))
theorem dropG_some (b off c s : Nat) (h : s < c) : dropG (some ⟨b, off, none⟩) c s = some ⟨b, off + s * 2, none⟩ := by
  rw [dropG, if_neg (by omega)]
  simp only [Option.map_some, Addr.add]
  split <;> simp_all
/-- The first k of such a list, and the rest. -/
theorem GnIn.take {w : World} {F : Nat → Prop} {A : Option Addr} {n k : Nat} {l : List (Nat × Nat)} (h : GnIn w F A n l) (hk : k ≤ n) : GnIn w F A k (l.take k) := ⟨by rw [List.length_take, h.1]; omega, fun hp => by
  obtain ⟨b, off, e, hb, hl, hc⟩ := h.2 (by omega)
  refine ⟨b, off, e, hb, hl, fun i x hi => hc i x ?_⟩
  rw [List.getElem?_take] at hi
  split at hi
  · exact hi
  · cases hi⟩
theorem GnIn.drop {w : World} {F : Nat → Prop} {A : Option Addr} {n c k : Nat} {l : List (Nat × Nat)} (h : GnIn w F A n l) (hc : n ≤ c) : GnIn w F (dropG A c k) (n - k) (l.drop k) := ⟨by rw [List.length_drop, h.1], fun hp => by
  obtain ⟨b, off, rfl, hb, hl, hcl⟩ := h.2 (by omega)
  refine ⟨b, off + k * 2, dropG_some b off c k (by omega), hb, hl, fun i x hi => ?_⟩
  rw [List.getElem?_drop] at hi
  have h1 := hcl (k + i) x hi
  rw [show off + (k + i) * 2 = off + k * 2 + i * 2 by omega] at h1
  exact h1⟩
theorem GnIn.cells {w : World} {F : Nat → Prop} {A : Option Addr} {n : Nat} {l : List (Nat × Nat)} (h : GnIn w F A n l) : 0 < n → ∃ b off, A = some ⟨b, off, none⟩ ∧ ∀ (i : Nat) (p : Nat × Nat), l[i]? = some p → w.cell? ⟨b, off + i * 2, none⟩ = some (.int .u64 (p.1 : Int)) ∧ w.cell? ⟨b, off + i * 2 + 1, none⟩ = some (.pointer (some ⟨p.2, 0, none⟩)) := fun hp => by
  obtain ⟨b, off, e, hb, hl, hc⟩ := h.2 hp
  exact ⟨b, off, e, hc⟩
theorem OwnGn.cap {w : World} {base n c : Nat} {A : Option Addr} {l : List (Nat × Nat)} (h : OwnGn w base A n c l) : n ≤ c := by
  rcases h.2 with ⟨hv, h0⟩ | ⟨g, cap, cur, hv, hg, hh, hnc, _⟩
  · omega
  · injection hv with h1 h2 h3
    omega
theorem OwnGn.turned {F : Nat → Prop} {w w' : World} {base n c : Nat} {A : Option Addr} {l : List (Nat × Nat)} (h : OwnGn w base A n c l) (k : Turned F w w') (hn : ∀ b, (Value.slice A n c).ownBlock = some b → ¬ F b) : OwnGn w' base A n c l := k.owns h hn
end Go.Proofs.YtgelalbmhllccaaGreat
/- The document's own basis: places, each with its row or none (plain). -/
namespace Go.Proofs.YtgelalbmhllccaaGreat
open Lin
set_option linter.unusedVariables false
/-- The rows that are there. -/
def selP : List Bool → List PairV → List PairV
  | [], _ => []
  | _, [] => []
  | b :: bs, p :: ps => if b then p :: selP bs ps else selP bs ps
theorem selP_append : ∀ (a : List Bool) (c : List PairV) (b : List Bool) (d : List PairV), a.length = c.length → selP (a ++ b) (c ++ d) = selP a c ++ selP b d
  | [], [], b, d, _ => rfl
  | [], _ :: _, b, d, h => by simp at h
  | _ :: _, [], b, d, h => by simp at h
  | x :: a, p :: c, b, d, h => by
    have ih := selP_append a c b d (by simpa using h)
    show (if x then p :: selP (a ++ b) (c ++ d) else selP (a ++ b) (c ++ d)) = (if x then p :: selP a c else selP a c) ++ selP b d
    rw [ih]
    cases x <;> rfl
theorem selP_succ {iv : List Bool} {R : List PairV} {i : Nat} {x : Bool} {p : PairV} (hx : iv[i]? = some x) (hp : R[i]? = some p) : selP (iv.take (i + 1)) (R.take (i + 1)) = selP (iv.take i) (R.take i) ++ (if x then [p] else []) := by
  have h1 := (List.getElem?_eq_some_iff.1 hx).1
  have h2 := (List.getElem?_eq_some_iff.1 hp).1
  rw [List.take_add_one, List.take_add_one, hx, hp, selP_append _ _ _ _ (by rw [List.length_take, List.length_take]; omega)]
  congr 1
theorem selP_split {iv : List Bool} {R : List PairV} (h : iv.length = R.length) (m : Nat) : selP iv R = selP (iv.take m) (R.take m) ++ selP (iv.drop m) (R.drop m) := by
  rw [← selP_append _ _ _ _ (by rw [List.length_take, List.length_take, h]), List.take_append_drop, List.take_append_drop]
theorem selP_mem : ∀ (iv : List Bool) (R : List PairV) (k : Nat) (p : PairV), (selP iv R)[k]? = some p → ∃ i : Nat, iv[i]? = some true ∧ R[i]? = some p
  | [], _, k, p, h => by simp [selP] at h
  | _ :: _, [], k, p, h => by simp [selP] at h
  | true :: iv, q :: R, 0, p, h => ⟨0, rfl, h⟩
  | true :: iv, q :: R, k + 1, p, h => by
    obtain ⟨i, h1, h2⟩ := selP_mem iv R k p h
    exact ⟨i + 1, h1, h2⟩
  | false :: iv, q :: R, k, p, h => by
    obtain ⟨i, h1, h2⟩ := selP_mem iv R k p h
    exact ⟨i + 1, h1, h2⟩
theorem selP_low {iv : List Bool} {R : List PairV} {m k : Nat} {p : PairV} (hk : k < (selP (iv.take m) (R.take m)).length) (hl : iv.length = R.length) (h : (selP iv R)[k]? = some p) : ∃ i : Nat, i < m ∧ iv[i]? = some true ∧ R[i]? = some p := by
  rw [selP_split hl m, List.getElem?_append_left hk] at h
  obtain ⟨i, h1, h2⟩ := selP_mem _ _ _ _ h
  rw [List.getElem?_take] at h1 h2
  split at h1
  · next hi => rw [if_pos hi] at h2; exact ⟨i, hi, h1, h2⟩
  · cases h1
theorem selP_high {iv : List Bool} {R : List PairV} {m k : Nat} {p : PairV} (hk : (selP (iv.take m) (R.take m)).length ≤ k) (hl : iv.length = R.length) (h : (selP iv R)[k]? = some p) : ∃ i : Nat, m ≤ i ∧ iv[i]? = some true ∧ R[i]? = some p := by
  rw [selP_split hl m, List.getElem?_append_right hk] at h
  obtain ⟨i, h1, h2⟩ := selP_mem _ _ _ _ h
  rw [List.getElem?_drop] at h1 h2
  exact ⟨m + i, by omega, h1, h2⟩
theorem selP_at {iv : List Bool} {R : List PairV} {i : Nat} {p : PairV} (hl : iv.length = R.length) (hx : iv[i]? = some true) (hp : R[i]? = some p) : (selP iv R)[(selP (iv.take i) (R.take i)).length]? = some p := by
  rw [selP_split hl (i + 1), selP_succ hx hp, if_pos rfl, List.append_assoc, List.getElem?_append_right (Nat.le_refl _), Nat.sub_self]; rfl
theorem selP_map {f : List Nat → List Nat} : ∀ (iv : List Bool) (R R' : List PairV), R'.length = R.length → (∀ (i : Nat) (p p' : PairV), iv[i]? = some true → R[i]? = some p → R'[i]? = some p' → p'.xs = f p.xs) → (selP iv R').map PairV.xs = ((selP iv R).map PairV.xs).map f
  | [], _, _, _, _ => by simp [selP]
  | _ :: _, [], R', h, _ => by
    obtain rfl : R' = [] := List.eq_nil_of_length_eq_zero (by simpa using h)
    simp [selP]
  | _ :: _, _ :: _, [], h, _ => by simp at h
  | x :: iv, p :: R, p' :: R', h, hf => by
    have ih := selP_map (f := f) iv R R' (by simpa using h) fun i q q' h1 h2 h3 => hf (i + 1) q q' h1 h2 h3
    cases x with
    | true =>
      show (p' :: selP iv R').map PairV.xs = ((p :: selP iv R).map PairV.xs).map f
      rw [List.map_cons, List.map_cons, List.map_cons, ih, hf 0 p p' rfl rfl rfl]
    | false => exact ih
theorem selP_set {iv : List Bool} {R : List PairV} {L : Nat} {r : PairV} (hl : iv.length = R.length) (hL : iv[L]? = some false) : selP (iv.set L true) (R.set L r) = (selP iv R).take (selP (iv.take L) (R.take L)).length ++ [r] ++ (selP iv R).drop (selP (iv.take L) (R.take L)).length := by
  have h1 := (List.getElem?_eq_some_iff.1 hL).1
  have hp := List.getElem?_eq_getElem (l := R) (i := L) (by omega)
  have e1 := selP_split hl (L + 1)
  rw [selP_succ hL hp, if_neg (by decide), List.append_nil] at e1
  have hl2 : (iv.set L true).length = (R.set L r).length := by rw [List.length_set, List.length_set, hl]
  have e2 := selP_split hl2 (L + 1)
  rw [selP_succ (i := L) (x := true) (p := r) (by rw [List.getElem?_set_self h1]) (by rw [List.getElem?_set_self (by omega)]), if_pos rfl] at e2
  rw [e2, e1, List.take_left', List.drop_left', List.take_set_of_le (Nat.le_refl L), List.take_set_of_le (Nat.le_refl L), List.drop_set_of_lt (Nat.lt_succ_self L), List.drop_set_of_lt (Nat.lt_succ_self L)]
  · rfl
  · rfl
/-- Places, and the basis that they are. -/
structure Slots (g s : Nat) (iv : List Bool) (R : List PairV) (B : List (List Nat)) : Prop where
  li : iv.length = g
  lr : R.length = g
  sel : (selP iv R).map PairV.xs = B
  lead : ∀ (i : Nat) (p : PairV), iv[i]? = some true → R[i]? = some p → vLead (g + s) p.xs = (i : Int)
  size : ∀ (i : Nat) (p : PairV), iv[i]? = some true → R[i]? = some p → p.a.xs.length = g ∧ p.b.xs.length = s
/-- How many rows stand ahead of a place. -/
def cnt (iv : List Bool) (R : List PairV) (i : Nat) : Nat := (selP (iv.take i) (R.take i)).length
section
variable {g s : Nat} {iv : List Bool} {R : List PairV} {B : List (List Nat)}
theorem Slots.eq (h : Slots g s iv R B) : iv.length = R.length := h.li.trans h.lr.symm
theorem Slots.none (g s : Nat) (p : PairV) : Slots g s (List.replicate g false) (List.replicate g p) [] := by
  have hs : ∀ n, selP (List.replicate n false) (List.replicate n p) = [] := fun n => by
    induction n with
    | zero => rfl
    | succ n ih => rw [List.replicate_succ, List.replicate_succ]; exact ih
  refine ⟨List.length_replicate, List.length_replicate, by rw [hs]; rfl, fun i q h1 _ => ?_, fun i q h1 _ => ?_⟩
  · rw [List.getElem?_replicate] at h1; split at h1 <;> cases h1
  · rw [List.getElem?_replicate] at h1; split at h1 <;> cases h1
theorem cnt_yes {i : Nat} {p : PairV} (hx : iv[i]? = some true) (hp : R[i]? = some p) : cnt iv R (i + 1) = cnt iv R i + 1 := by rw [cnt, selP_succ hx hp, if_pos rfl, List.length_append]; rfl
theorem Slots.row (h : Slots g s iv R B) {i : Nat} {p : PairV} (hx : iv[i]? = some true) (hp : R[i]? = some p) : B.getD (cnt iv R i) [] = p.xs ∧ cnt iv R i < B.length := by
  have e := selP_at h.eq hx hp
  rw [← h.sel, List.getD_eq_getElem?_getD, List.getElem?_map]
  rw [cnt, e]
  refine ⟨rfl, ?_⟩
  rw [List.length_map]; exact (List.getElem?_eq_some_iff.1 e).1
/-- One step of the reduction. -/
theorem Slots.clear (h : Slots g s iv R B) {i : Nat} {p : PairV} (row : List Nat) (hx : iv[i]? = some true) (hp : R[i]? = some p) :
    clearTo (g + s) B row (cnt iv R (i + 1)) = vAddS (g + s) (clearTo (g + s) B row (cnt iv R i)) p.xs ((clearTo (g + s) B row (cnt iv R i)).getD i 0) := by
  rw [cnt_yes hx hp]
  show vAddS (g + s) _ (B.getD (cnt iv R i) []) (_ : Nat) = _
  rw [(h.row hx hp).1, h.lead i p hx hp, Int.toNat_natCast]
theorem lead_vals {n i : Nat} {xs : List Nat} (h : vLead n xs = (i : Int)) : i < n ∧ xs.getD i 0 ≠ 0 ∧ ∀ j, j < i → xs.getD j 0 = 0 := by
  obtain ⟨L, h1, h2⟩ := vLead_some (n := n) (xs := xs) (by rw [h]; omega)
  rw [h] at h2
  obtain rfl : i = L := by omega
  exact (vLeadTo_some xs n i).1 h1
/-- A new row is put in at its place. -/
theorem Slots.put (h : Slots g s iv R B) (hB : Bas g s B) {row : List Nat} (hl : row.length = g + s) (ha : AllB row) {L : Nat} (hL : vLead g (leftB (g + s) B row) = (L : Int)) {r : PairV} (hr : r.xs = vScale (g + s) (leftB (g + s) B row) (invN ((leftB (g + s) B row).getD L 0))) (hra : r.a.xs.length = g) (hrb : r.b.xs.length = s)
    {R' : List PairV} (hR : R'.length = g) (hf : ∀ (i : Nat) (p p' : PairV), iv[i]? = some true → R[i]? = some p → R'[i]? = some p' → p'.xs = vAddS (g + s) p.xs r.xs (p.xs.getD L 0) ∧ p'.a.xs.length = g ∧ p'.b.xs.length = s) :
    L < g ∧ iv[L]? = some false ∧ Slots g s (iv.set L true) (R'.set L r) (insB g s B row) := by
  obtain ⟨hLg, hL0, hLz⟩ := lead_vals hL
  obtain ⟨l, hrd, hlt⟩ := hB.leads
  have hLf : iv[L]? = some false := by
    have h1 := List.getElem?_eq_getElem (l := iv) (i := L) (by rw [h.li]; exact hLg)
    cases hx : iv[L]'(by rw [h.li]; exact hLg) with
    | false => rw [h1, hx]
    | true =>
      rw [hx] at h1
      have hp := List.getElem?_eq_getElem (l := R) (i := L) (by rw [h.lr]; exact hLg)
      obtain ⟨e1, e2⟩ := h.row h1 hp
      have e3 := hB.lead_at hrd e2
      rw [e1, h.lead L _ h1 hp] at e3
      have e4 := left_nought hB.ok hrd hl ha e2
      rw [← show (L : Nat) = l (cnt iv R L) by omega] at e4
      exact absurd ((vec_zero_iff (left_all hB.ok ha) L).1 e4) hL0
  refine ⟨hLg, hLf, by rw [List.length_set, h.li], by rw [List.length_set, hR], ?_, fun i p hx hp => ?_, fun i p hx hp => ?_⟩
  · have hlo : ∀ k, k < cnt iv R L → ∃ j, j < L ∧ (B.getD k []).getD j 0 ≠ 0 := fun k hk => by
      have hkl : k < (selP iv R).length := by
        rw [selP_split h.eq L, List.length_append]
        have : k < (selP (iv.take L) (R.take L)).length := hk
        omega
      obtain ⟨i, hi, h1, h2⟩ := selP_low hk h.eq (List.getElem?_eq_getElem hkl)
      refine ⟨i, hi, ?_⟩
      have e0 : B.getD k [] = ((selP iv R)[k]).xs := by rw [← h.sel, List.getD_eq_getElem?_getD, List.getElem?_map, List.getElem?_eq_getElem hkl]; rfl
      rw [e0]
      exact (lead_vals (h.lead i _ h1 h2)).2.1
    have hhi : cnt iv R L < B.length → ∀ j, j < L → (B.getD (cnt iv R L) []).getD j 0 = 0 := fun hq j hj => by
      have hkl : cnt iv R L < (selP iv R).length := by rw [← h.sel, List.length_map] at hq; exact hq
      obtain ⟨i, hi, h1, h2⟩ := selP_high (m := L) (Nat.le_refl _) h.eq (List.getElem?_eq_getElem hkl)
      have e0 : B.getD (cnt iv R L) [] = ((selP iv R)[cnt iv R L]).xs := by rw [← h.sel, List.getD_eq_getElem?_getD, List.getElem?_map, List.getElem?_eq_getElem hkl]; rfl
      rw [e0]
      exact (lead_vals (h.lead i _ h1 h2)).2.2 j (by omega)
    have hq : cnt iv R L ≤ B.length := by
      rw [← h.sel, List.length_map, selP_split h.eq L, List.length_append]
      exact Nat.le_add_right _ _
    rw [insB_at hB hl ha hL hq hlo hhi, ← hr]
    have hc : (selP iv R').map PairV.xs = clearedL (g + s) B r.xs L := by
      rw [selP_map (f := fun m => vAddS (g + s) m r.xs (m.getD L 0)) iv R R' (by rw [hR, h.lr]) fun i p p' h1 h2 h3 => (hf i p p' h1 h2 h3).1, h.sel]; rfl
    have hcnt : (selP (iv.take L) (R'.take L)).length = cnt iv R L := by
      have e := selP_map (f := fun _ => ([] : List Nat)) (iv.take L) (R.take L) (R'.take L) (by rw [List.length_take, List.length_take, hR, h.lr])
      have e2 : ∀ (a : List Bool) (c d : List PairV), c.length = d.length → (selP a c).length = (selP a d).length := fun a => by
        induction a with
        | nil => intro c d _; rfl
        | cons x a ih =>
          intro c d hcd
          match c, d, hcd with
          | [], [], _ => rfl
          | p :: c, q :: d, hcd =>
            have := ih c d (by simpa using hcd)
            cases x <;> simp [selP, this]
      exact e2 _ _ _ (by rw [List.length_take, List.length_take, hR, h.lr])
    rw [selP_set (by rw [h.li, hR]) hLf, hcnt, List.map_append, List.map_append, List.map_take, List.map_drop, hc]; rfl
  · by_cases e : i = L
    · subst e
      rw [List.getElem?_set_self (by rw [hR]; exact hLg)] at hp
      injection hp with hp
      subst hp
      rw [hr]
      refine vLead_at (by omega) ?_ fun j hj => ?_
      · rw [vScale, tab_getD, if_pos (by omega)]
        have e1 := mul_inv _ ((left_all hB.ok ha).getD i) (show 1 ≤ (leftB (g + s) B row).getD i 0 by omega)
        rw [e1]; decide
      · rw [vScale, tab_getD, if_pos (by omega), hLz j hj]
        exact mul_zero_left _
    · rw [List.getElem?_set_ne (fun e2 => e e2.symm)] at hx hp
      have hig : i < g := by rw [← h.li]; exact (List.getElem?_eq_some_iff.1 hx).1
      have hpR := List.getElem?_eq_getElem (l := R) (i := i) (by rw [h.lr]; exact hig)
      have hle := lead_vals (h.lead i _ hx hpR)
      have hxs := (hf i _ _ hx hpR hp).1
      have hu : ∀ j, j < L → r.xs.getD j 0 = 0 := fun j hj => by
        rw [hr, vScale, tab_getD, if_pos (by omega), hLz j hj]
        exact mul_zero_left _
      rw [hxs]
      rcases Nat.lt_or_ge i L with e2 | e2
      · refine vLead_at hle.1 ?_ fun j hj => ?_
        · rw [vAddS, tab_getD, if_pos hle.1, hu i e2, mul_zero_left, Nat.xor_zero]; exact hle.2.1
        · rw [vAddS, tab_getD, if_pos (by omega), hu j (by omega), mul_zero_left, Nat.xor_zero]; exact hle.2.2 j hj
      · have hc : (R[i]'(by rw [h.lr]; exact hig)).xs.getD L 0 = 0 := hle.2.2 L (by omega)
        have hra2 : AllB r.xs := by
          rw [hr]
          exact vScale_all (left_all hB.ok ha)
        have hsz := h.size i _ hx hpR
        rw [hc, vAddS_none _ (by rw [PairV.xs, List.length_append, hsz.1, hsz.2]) hra2]
        exact h.lead i _ hx hpR
  · by_cases e : i = L
    · subst e
      rw [List.getElem?_set_self (by rw [hR]; exact hLg)] at hp
      injection hp with hp
      subst hp
      exact ⟨hra, hrb⟩
    · rw [List.getElem?_set_ne (fun e2 => e e2.symm)] at hx hp
      have hig : i < g := by rw [← h.li]; exact (List.getElem?_eq_some_iff.1 hx).1
      have hpR := List.getElem?_eq_getElem (l := R) (i := i) (by rw [h.lr]; exact hig)
      exact (hf i _ _ hx hpR hp).2
end
end Go.Proofs.YtgelalbmhllccaaGreat
/- The contract of the document's own inverse. -/
namespace Go.Proofs.YtgelalbmhllccaaGreat
open Go.RowKit
end Go.Proofs.YtgelalbmhllccaaGreat
/- The document's own basis in memory: New, sums of rows, leads. -/
namespace Go.Proofs.YtgelalbmhllccaaGreat
open Go.RowKit Lin
set_option linter.unusedVariables false
set_option linter.unusedSimpArgs false
/-- The document's own basis at block b: its places, and the rows there. -/
structure RefR (w : World) (F : Nat → Prop) (b g s bi br : Nat) (iv : List Bool) (R : List PairV) : Prop where
  lt : ∀ k, F k → k < w.heap.size
  fb : F b
  fi : F bi
  fr : F br
  ne : b ≠ bi ∧ b ≠ br ∧ bi ≠ br
  block : w.heap[b]? = some (.cells #[.int .i64 (g : Int), .int .i64 (s : Int), .slice (some ⟨bi, 0, none⟩) g g, .slice (some ⟨br, 0, none⟩) g g] 143 (0, 0))
  bools : w.heap[bi]? = some (.cells (iv.map Value.bool).toArray 4 (0, 0))
  st : StB w br R
  li : iv.length = g
  lr : R.length = g
  rows : ∀ (i : Nat) (p : PairV), iv[i]? = some true → R[i]? = some p → (LiesIn w (fun k => F k ∧ k ≠ b ∧ k ≠ bi ∧ k ≠ br) p.a ∧ LiesIn w (fun k => F k ∧ k ≠ b ∧ k ≠ bi ∧ k ≠ br) p.b) ∧ p.a.n = g ∧ p.b.n = s
section
variable {w w' : World} {F G : Nat → Prop} {b g s bi br : Nat} {iv : List Bool} {R : List PairV}
theorem RefR.turned (h : RefR w F b g s bi br iv R) (k : Turned G w w') (hd : ∀ b, F b → ¬ G b) : RefR w' F b g s bi br iv R :=
  ⟨fun x hx => Nat.lt_of_lt_of_le (h.lt x hx) k.size, h.fb, h.fi, h.fr, h.ne, (k.block b (h.lt b h.fb) (hd b h.fb)).trans h.block, (k.block bi (h.lt bi h.fi) (hd bi h.fi)).trans h.bools, h.st.turned k (hd br h.fr), h.li, h.lr, fun i p hx hp => by
    obtain ⟨⟨a, c⟩, z⟩ := h.rows i p hx hp
    exact ⟨⟨a.turned k fun x hx => hd x hx.1, c.turned k fun x hx => hd x hx.1⟩, z⟩⟩
theorem RefR.keep (h : RefR w F b g s bi br iv R) (k : Keep w w') : RefR w' F b g s bi br iv R := h.turned (Turned.of_keep (F := fun _ => False) k) fun _ _ e => e
theorem RefR.c0 (h : RefR w F b g s bi br iv R) : w.cell? ⟨b, 0, none⟩ = some (.int .i64 (g : Int)) := cell_of_row _ _ _ _ _ _ h.block
theorem RefR.c1 (h : RefR w F b g s bi br iv R) : w.cell? ⟨b, 1, none⟩ = some (.int .i64 (s : Int)) := cell_of_row _ _ _ _ _ _ h.block
theorem RefR.c2 (h : RefR w F b g s bi br iv R) : w.cell? ⟨b, 2, none⟩ = some (.slice (some ⟨bi, 0, none⟩) g g) := cell_of_row _ _ _ _ _ _ h.block
theorem RefR.c3 (h : RefR w F b g s bi br iv R) : w.cell? ⟨b, 3, none⟩ = some (.slice (some ⟨br, 0, none⟩) g g) := cell_of_row _ _ _ _ _ _ h.block
theorem RefR.cb (h : RefR w F b g s bi br iv R) {i : Nat} {x : Bool} (hx : iv[i]? = some x) : w.cell? ⟨bi, i, none⟩ = some (.bool x) := by
  rw [World.cell?, h.bools]
  simp [List.getElem?_map, hx]
end
/-- A sum of rows: new memory. -/
structure SumR (w w' : World) (g s : Nat) (xs ys : List Nat) (p : PairV) : Prop where
  an : p.a.n = g
  bn : p.b.n = s
  a : Own w' w.heap.size 5 p.a.A p.a.n p.a.c p.a.xs
  b : Own w' w.heap.size 5 p.b.A p.b.n p.b.c p.b.xs
  ax : p.a.xs = xs
  bx : p.b.xs = ys
  keep : Keep w w'
end Go.Proofs.YtgelalbmhllccaaGreat
/- The document's own basis: what its rows leave of one. -/
namespace Go.Proofs.YtgelalbmhllccaaGreat
open Go.RowKit Lin
set_option linter.unusedVariables false
set_option linter.unusedSimpArgs false
/-- A row at work, in a box at q. -/
structure RedW (w wr : World) (G : Nat → Prop) (q g s : Nat) (v : List Nat) (p : PairV) : Prop where
  base : w.heap.size = q
  row : wr.heap[q]? = some (.cells #[p.a.val, p.b.val] 45 (0, 0))
  res : wr.heap[q + 1]? = some (.cells #[.slice none 0 0, .slice none 0 0] 45 (0, 0))
  an : p.a.n = g
  bn : p.b.n = s
  a : LiesIn wr (fun b => G b ∨ (q + 2 ≤ b ∧ b < wr.heap.size)) p.a
  b : LiesIn wr (fun b => G b ∨ (q + 2 ≤ b ∧ b < wr.heap.size)) p.b
  xs : p.a.xs ++ p.b.xs = v
  keep : Keep w wr
theorem RedW.later {w wr w2 : World} {G : Nat → Prop} {q g s : Nat} {v : List Nat} {p : PairV} (h : RedW w wr G q g s v p) (k : Keep wr w2) : RedW w w2 G q g s v p :=
  ⟨h.base, (k.block _ (Array.getElem?_eq_some_iff.1 h.row).1).trans h.row, (k.block _ (Array.getElem?_eq_some_iff.1 h.res).1).trans h.res, h.an, h.bn,
    (h.a.turned (Turned.of_keep (F := fun _ => False) k) fun _ _ e => e).mono fun b hb => hb.imp id fun e => ⟨e.1, Nat.lt_of_lt_of_le e.2 k.size⟩,
    (h.b.turned (Turned.of_keep (F := fun _ => False) k) fun _ _ e => e).mono fun b hb => hb.imp id fun e => ⟨e.1, Nat.lt_of_lt_of_le e.2 k.size⟩, h.xs, h.keep.trans k⟩
theorem RedW.put {w wr w4 w5 : World} {G : Nat → Prop} {q g s : Nat} {v v' xs ys : List Nat} {p p' : PairV} (h : RedW w w4 G q g s v p) (hG : ∀ k, G k → k < q) (hb : w5.heap[q]? = some (.cells #[p'.a.val, p'.b.val] 45 (0, 0))) (t : Turned (fun b => b = q) w4 w5) (hC : SumR wr w4 g s xs ys p') (hqw : q + 1 < wr.heap.size) (hx : p'.a.xs ++ p'.b.xs = v') : RedW w w5 G q g s v' p' := by
  have hd : ∀ b, (wr.heap.size ≤ b ∧ b < w4.heap.size) → ¬ b = q := fun b hb => by omega
  have hm : ∀ b, (wr.heap.size ≤ b ∧ b < w4.heap.size) → (G b ∨ (q + 2 ≤ b ∧ b < w5.heap.size)) := fun b hb => Or.inr ⟨by omega, Nat.lt_of_lt_of_le hb.2 t.size⟩
  exact ⟨h.base, hb, (t.block _ (Array.getElem?_eq_some_iff.1 h.res).1 (by omega)).trans h.res, hC.an, hC.bn,
    ((hC.a.lies.mono fun b hb => hC.a.1.lt b hb).turned t hd).mono hm, ((hC.b.lies.mono fun b hb => hC.b.1.lt b hb).turned t hd).mono hm, hx, t.keep h.keep fun i e => by rw [e, h.base]; exact Nat.le_refl _⟩
end Go.Proofs.YtgelalbmhllccaaGreat
/- The document's own basis: Insert. -/
namespace Go.Proofs.YtgelalbmhllccaaGreat
open Go.RowKit Lin
set_option linter.unusedVariables false
set_option linter.unusedSimpArgs false
section
variable {w : World} {F RF : Nat → Prop} {b g s bi br k : Nat} {iv : List Bool} {R : List PairV} {p' : PairV}
theorem RefR.setRow (h : RefR w F b g s bi br iv R) (hk : k < g) (hl : LiesIn w RF p'.a ∧ LiesIn w RF p'.b) (hsz : p'.a.n = g ∧ p'.b.n = s) (hRF : ∀ x, RF x → x < w.heap.size ∧ ¬ F x) :
    RefR ((w.setCell ⟨br, k * 2, none⟩ p'.a.val).setCell ⟨br, k * 2 + 1, none⟩ p'.b.val) (fun x => F x ∨ RF x) b g s bi br iv (R.set k p') ∧ Turned (fun x => x = br) w ((w.setCell ⟨br, k * 2, none⟩ p'.a.val).setCell ⟨br, k * 2 + 1, none⟩ p'.b.val) := by
  have T : Turned (fun x => x = br) w ((w.setCell ⟨br, k * 2, none⟩ p'.a.val).setCell ⟨br, k * 2 + 1, none⟩ p'.b.val) :=
    (Turned.set (F := fun b => b = br) w ⟨br, k * 2, none⟩ p'.a.val rfl).trans (Turned.set (F := fun b => b = br) _ ⟨br, k * 2 + 1, none⟩ p'.b.val rfl) fun _ e => Or.inl e
  refine ⟨⟨fun x hx => ?_, Or.inl h.fb, Or.inl h.fi, Or.inl h.fr, h.ne, (T.block b (h.lt b h.fb) h.ne.2.1).trans h.block, (T.block bi (h.lt bi h.fi) h.ne.2.2).trans h.bools, h.st.set k p', h.li, by rw [List.length_set, h.lr], fun i p hx hp => ?_⟩, T⟩
  · rcases hx with e | e
    · exact Nat.lt_of_lt_of_le (h.lt x e) T.size
    · exact Nat.lt_of_lt_of_le (hRF x e).1 T.size
  · by_cases e : i = k
    · subst e
      rw [List.getElem?_set_self (by rw [h.lr]; exact hk)] at hp
      injection hp with hp
      subst hp
      have hn : ∀ x, RF x → ¬ x = br := fun x hx e => (hRF x hx).2 (e ▸ h.fr)
      have hm : ∀ x, RF x → (F x ∨ RF x) ∧ x ≠ b ∧ x ≠ bi ∧ x ≠ br := fun x hx => ⟨Or.inr hx, fun e => (hRF x hx).2 (e ▸ h.fb), fun e => (hRF x hx).2 (e ▸ h.fi), hn x hx⟩
      exact ⟨⟨(hl.1.turned T hn).mono hm, (hl.2.turned T hn).mono hm⟩, hsz⟩
    · rw [List.getElem?_set_ne (fun e2 => e e2.symm)] at hp
      obtain ⟨⟨a, c⟩, z⟩ := h.rows i p hx hp
      have hm : ∀ x, (F x ∧ x ≠ b ∧ x ≠ bi ∧ x ≠ br) → ((F x ∨ RF x) ∧ x ≠ b ∧ x ≠ bi ∧ x ≠ br) := fun x hx => ⟨Or.inl hx.1, hx.2⟩
      exact ⟨⟨(a.turned T fun x hx => hx.2.2.2).mono hm, (c.turned T fun x hx => hx.2.2.2).mono hm⟩, z⟩
end
/-- Rows being cleared. -/
structure InsI (w wr : World) (F : Nat → Prop) (b g s bi br q k L : Nat) (iv : List Bool) (R Rk : List PairV) (r : PairV) (lo hi : Nat) : Prop where
  ref : ∃ Fk, RefR wr Fk b g s bi br iv Rk ∧ ∀ x, Fk x → F x ∨ hi ≤ x
  row : wr.heap[q]? = some (.cells #[r.a.val, r.b.val] 45 (0, 0))
  ra : LiesIn wr (fun x => lo ≤ x ∧ x < hi) r.a
  rb : LiesIn wr (fun x => lo ≤ x ∧ x < hi) r.b
  done : ∀ (i : Nat) (p p' : PairV), i < k → iv[i]? = some true → R[i]? = some p → Rk[i]? = some p' → p'.xs = vAddS (g + s) p.xs r.xs (p.xs.getD L 0) ∧ p'.a.xs.length = g ∧ p'.b.xs.length = s
  rest : ∀ i, k ≤ i → Rk[i]? = R[i]?
  turn : Turned F w wr
  lim : hi ≤ wr.heap.size
  qhi : q < hi
section
variable {w wr w4 w5 : World} {F Fk : Nat → Prop} {b g s bi br q k L lo hi : Nat} {iv : List Bool} {R Rk : List PairV} {r p p' : PairV}
theorem InsI.skip (h : InsI w wr F b g s bi br q k L iv R Rk r lo hi) (hx : iv[k]? = some false) : InsI w wr F b g s bi br q (k + 1) L iv R Rk r lo hi :=
  ⟨h.ref, h.row, h.ra, h.rb, fun i p p' hi h1 h2 h3 => by
    by_cases e : i = k
    · subst e; rw [hx] at h1; cases h1
    · exact h.done i p p' (by omega) h1 h2 h3, fun i hi => h.rest i (by omega), h.turn, h.lim, h.qhi⟩
theorem InsI.put (h : InsI w wr F b g s bi br q k L iv R Rk r lo hi) (hk : k < g) (hR : RefR w F b g s bi br iv R) (hq : w.heap.size = q) (hx : iv[k]? = some true) (hp : R[k]? = some p) (hlo : w.heap.size ≤ lo ∧ lo ≤ hi) (hRk : RefR wr Fk b g s bi br iv Rk) (hFk : ∀ x, Fk x → F x ∨ hi ≤ x)
    (hr : RefR w5 (fun x => Fk x ∨ (wr.heap.size ≤ x ∧ x < w4.heap.size)) b g s bi br iv (Rk.set k p')) (t : Turned (fun x => x = br) w4 w5) (k4 : Keep wr w4) (hv : p'.a.xs ++ p'.b.xs = vAddS (g + s) p.xs r.xs (p.xs.getD L 0)) (h1 : p'.a.xs.length = g) (h2 : p'.b.xs.length = s) :
    InsI w w5 F b g s bi br q (k + 1) L iv R (Rk.set k p') r lo hi := by
  have hbr : br < w.heap.size := hR.lt br hR.fr
  have T : Turned (fun x => x = br) wr w5 := (Turned.of_keep (F := fun x => x = br) k4).trans t fun _ e => Or.inl e
  refine ⟨⟨_, hr, fun x hx => ?_⟩, (T.block q (Array.getElem?_eq_some_iff.1 h.row).1 (by omega)).trans h.row, h.ra.turned T fun x hx => by omega, h.rb.turned T fun x hx => by omega, fun i a c hi ha hb hc => ?_, fun i hi => ?_, h.turn.trans T fun x e => Or.inl (e ▸ hR.fr), Nat.le_trans h.lim T.size, h.qhi⟩
  · rcases hx with e | e
    · exact hFk x e
    · exact Or.inr (Nat.le_trans h.lim e.1)
  · by_cases e : i = k
    · subst e
      rw [List.getElem?_set_self (by rw [hRk.lr]; exact hk)] at hc
      injection hc with hc
      subst hc
      rw [hp] at hb
      injection hb with hb
      subst hb
      exact ⟨hv, h1, h2⟩
    · rw [List.getElem?_set_ne (fun e2 => e e2.symm)] at hc
      exact h.done i a c (by omega) ha hb hc
  · rw [List.getElem?_set_ne (by omega)]
    exact h.rest i (by omega)
end
section
variable {w : World} {F G : Nat → Prop} {b g s bi br : Nat} {iv : List Bool} {R : List PairV} {B : List (List Nat)}
end
end Go.Proofs.YtgelalbmhllccaaGreat
/- The document's own basis: Rows, Rank, Contains; rows that do not fit. -/
namespace Go.Proofs.YtgelalbmhllccaaGreat
open Go.RowKit Lin
set_option linter.unusedVariables false
set_option linter.unusedSimpArgs false
section
variable {w : World} {F G : Nat → Prop} {b g s bi br : Nat} {iv : List Bool} {R : List PairV} {B : List (List Nat)}
/-- What Rows tells: a list of its own, of rows that the basis keeps. -/
def RowsR (w w' : World) (F : Nat → Prop) (g s : Nat) (A : Option Addr) (n c : Nat) (qs : List PairV) : Prop :=
  OwnSt w' w.heap.size A n c qs ∧ (∀ p ∈ qs, (LiesIn w' F p.a ∧ LiesIn w' F p.b) ∧ p.a.n = g ∧ p.b.n = s) ∧ Keep w w'
theorem RowsR.stIn {w w' : World} {A : Option Addr} {n c : Nat} {qs : List PairV} (h : RowsR w w' F g s A n c qs) : StIn w' (fun x => F x ∨ (w.heap.size ≤ x ∧ x < w'.heap.size)) A n qs :=
  OwnSt.stIn h.1 (fun p hp => ⟨(h.2.1 p hp).1.1.mono fun x hx => Or.inl hx, (h.2.1 p hp).1.2.mono fun x hx => Or.inl hx⟩) fun x hx => Or.inr (h.1.lt x hx)
end
end Go.Proofs.YtgelalbmhllccaaGreat
/- The document's own window. -/
namespace Go.Proofs.YtgelalbmhllccaaGreat
open Go.RowKit
set_option linter.unusedVariables false
set_option linter.unusedSimpArgs false
/-- The document's window of width k and base b in block g. -/
structure RefW (w : World) (g k b : Nat) : Prop where
  block : w.heap[g]? = some (.cells #[.int .u64 (b : Int), .int .i64 (k : Int)] 141 (0, 0))
  low : 1 ≤ k
  high : k ≤ 16
  top : b ≤ topN
namespace RefW
variable {w w' : World} {g k b : Nat}
theorem lt (h : RefW w g k b) : g < w.heap.size := (Array.getElem?_eq_some_iff.1 h.block).1
theorem c0 (h : RefW w g k b) : w.cell? ⟨g, 0, none⟩ = some (.int .u64 (b : Int)) := by simp [World.cell?, h.block]
theorem c1 (h : RefW w g k b) : w.cell? ⟨g, 1, none⟩ = some (.int .i64 (k : Int)) := by simp [World.cell?, h.block]
theorem free (h : RefW w g k b) : w.frozen? ⟨g, 0, none⟩ = false := by simp [World.frozen?, h.block]
theorem turned {G : Nat → Prop} (h : RefW w g k b) (t : Turned G w w') (hn : ¬ G g) : RefW w' g k b := ⟨(t.block g h.lt hn).trans h.block, h.low, h.high, h.top⟩
theorem keep (h : RefW w g k b) (t : Keep w w') : RefW w' g k b := ⟨(t.block g h.lt).trans h.block, h.low, h.high, h.top⟩
theorem moved (h : RefW w g k b) {c : Nat} (hc : c ≤ topN) : RefW (w.setCell ⟨g, 0, none⟩ (.int .u64 (c : Int))) g k c :=
  ⟨by simp [World.setCell, Array.getElem?_modify, h.block], h.low, h.high, hc⟩
end RefW
section
variable {g k b : Nat} {w : World}
end
end Go.Proofs.YtgelalbmhllccaaGreat
/- The document's own relay in memory. -/
namespace Go.Proofs.YtgelalbmhllccaaGreat
open Go.RowKit Lin
set_option linter.unusedVariables false
set_option linter.unusedSimpArgs false
/-- A generation that was asked for, and its basis. -/
structure GenS where
  n : Nat
  q : Nat
  F : Nat → Prop
  B : List (List Nat)
def GenS.Ok (x : GenS) (w : World) (g s : Nat) : Prop := Bas g s x.B ∧ ∃ bi br iv R, RefR w x.F x.q g s bi br iv R ∧ Slots g s iv R x.B
theorem GenS.Ok.turned {x : GenS} {w w' : World} {g s : Nat} {G : Nat → Prop} (h : x.Ok w g s) (t : Turned G w w') (hd : ∀ a, x.F a → ¬ G a) : x.Ok w' g s := by
  obtain ⟨hb, bi, br, iv, R, h1, h2⟩ := h
  exact ⟨hb, bi, br, iv, R, h1.turned t hd, h2⟩
theorem GenS.Ok.lt {x : GenS} {w : World} {g s : Nat} (h : x.Ok w g s) : ∀ a, x.F a → a < w.heap.size := by
  obtain ⟨hb, bi, br, iv, R, h1, h2⟩ := h
  exact h1.lt
def gnL (G : List GenS) : List (Nat × Nat) := G.map fun x => (x.n, x.q)
structure RefYA (w : World) (F : Nat → Prop) (p g s k b : Nat) (L : Nat → List (List Nat)) (wb : Nat) (A : Option Addr) (n c : Nat) (G : List GenS) : Prop where
  block : w.heap[p]? = some (.cells #[.int .i64 (g : Int), .int .i64 (s : Int), .pointer (some ⟨wb, 0, none⟩), .slice A n c] 98 (0, 0))
  win : RefW w wb k b
  own : OwnGn w 0 A n c (gnL G)
  ok : ∀ x ∈ G, x.Ok w g s
  up : ∀ (i j : Nat) (x y : GenS), i < j → G[i]? = some x → G[j]? = some y → x.n < y.n
  inw : ∀ x ∈ G, winIn b k x.n = true
  ap : ∀ (i j : Nat) (x y : GenS), i ≠ j → G[i]? = some x → G[j]? = some y → ∀ a, x.F a → ¬ y.F a
  off : ∀ x ∈ G, ∀ a, x.F a → a ≠ p ∧ a ≠ wb ∧ ¬ (Value.slice A n c).ownBlock = some a
  ne : p ≠ wb ∧ ∀ a, (Value.slice A n c).ownBlock = some a → a ≠ p ∧ a ≠ wb
  fp : F p
  fw : F wb
  fo : ∀ a, (Value.slice A n c).ownBlock = some a → F a
  fx : ∀ x ∈ G, ∀ a, x.F a → F a
  lt : ∀ a, F a → a < w.heap.size
  g1 : 1 ≤ g
  g2 : g ≤ 255
  s1 : 1 ≤ s
  s2 : s ≤ 65535
  l : ∀ x ∈ G, x.B = L x.n
  no : ∀ m, (∀ x ∈ G, x.n ≠ m) → L m = []
def RefY (w : World) (F : Nat → Prop) (p g s k b : Nat) (L : Nat → List (List Nat)) : Prop := ∃ wb A n c G, RefYA w F p g s k b L wb A n c G
section
variable {w w' : World} {F H : Nat → Prop} {p g s k b wb n c : Nat} {L : Nat → List (List Nat)} {A : Option Addr} {G : List GenS}
namespace RefYA
theorem r (h : RefYA w F p g s k b L wb A n c G) : RefY w F p g s k b L := ⟨wb, A, n, c, G, h⟩
theorem turned (h : RefYA w F p g s k b L wb A n c G) (t : Turned H w w') (hd : ∀ a, F a → ¬ H a) : RefYA w' F p g s k b L wb A n c G :=
  ⟨(t.block p (h.lt p h.fp) (hd p h.fp)).trans h.block, h.win.turned t (hd wb h.fw), h.own.turned t fun a ha => hd a (h.fo a ha), fun x hx => (h.ok x hx).turned t fun a ha => hd a (h.fx x hx a ha), h.up, h.inw, h.ap, h.off, h.ne, h.fp, h.fw, h.fo, h.fx, fun a ha => Nat.lt_of_lt_of_le (h.lt a ha) t.size, h.g1, h.g2, h.s1, h.s2, h.l, h.no⟩
theorem keep (h : RefYA w F p g s k b L wb A n c G) (t : Keep w w') : RefYA w' F p g s k b L wb A n c G := h.turned (Turned.of_keep (F := fun _ => False) t) fun _ _ e => e
theorem c0 (h : RefYA w F p g s k b L wb A n c G) : w.cell? ⟨p, 0, none⟩ = some (.int .i64 (g : Int)) := cell_of_row _ _ _ _ _ _ h.block
theorem c1 (h : RefYA w F p g s k b L wb A n c G) : w.cell? ⟨p, 1, none⟩ = some (.int .i64 (s : Int)) := cell_of_row _ _ _ _ _ _ h.block
theorem c2 (h : RefYA w F p g s k b L wb A n c G) : w.cell? ⟨p, 2, none⟩ = some (.pointer (some ⟨wb, 0, none⟩)) := cell_of_row _ _ _ _ _ _ h.block
theorem c3 (h : RefYA w F p g s k b L wb A n c G) : w.cell? ⟨p, 3, none⟩ = some (.slice A n c) := cell_of_row _ _ _ _ _ _ h.block
theorem free (h : RefYA w F p g s k b L wb A n c G) (i : Nat) : w.frozen? ⟨p, i, none⟩ = false := by simp [World.frozen?, h.block]
theorem len (h : RefYA w F p g s k b L wb A n c G) : G.length = n := by have := h.own.length; rwa [gnL, List.length_map] at this
/-- Of a window, there are no more than its width. -/
theorem from_ (h : RefYA w F p g s k b L wb A n c G) : ∀ (i : Nat) (x : GenS), G[i]? = some x → b + i ≤ x.n
  | 0, x, hx => by
    have h1 := h.inw x (List.mem_of_getElem? hx)
    rw [winIn_iff] at h1
    omega
  | i + 1, x, hx => by
    have hi : i < G.length := by have := (List.getElem?_eq_some_iff.1 hx).1; omega
    have h1 := h.from_ i G[i] (List.getElem?_eq_getElem hi)
    have h2 := h.up i (i + 1) G[i] x (by omega) (List.getElem?_eq_getElem hi) hx
    omega
/-- One of the bases has turned. -/
theorem put (h : RefYA w F p g s k b L wb A n c G) {i : Nat} {x : GenS} {F' : Nat → Prop} {B' : List (List Nat)} (hx : G[i]? = some x) (ok' : GenS.Ok ⟨x.n, x.q, F', B'⟩ w' g s) (hf : ∀ a, F' a → x.F a ∨ w.heap.size ≤ a) (t : Turned x.F w w') :
    RefYA w' (fun a => F a ∨ F' a) p g s k b (upd L x.n B') wb A n c (G.set i ⟨x.n, x.q, F', B'⟩) := by
  have hi : i < G.length := (List.getElem?_eq_some_iff.1 hx).1
  have hm := List.mem_of_getElem? hx
  have ho := h.off x hm
  have get : ∀ (j : Nat) (y : GenS), (G.set i ⟨x.n, x.q, F', B'⟩)[j]? = some y → (j = i ∧ y = ⟨x.n, x.q, F', B'⟩) ∨ (j ≠ i ∧ G[j]? = some y) := fun j y hy => set_get hy
  have mem : ∀ y ∈ G.set i ⟨x.n, x.q, F', B'⟩, y = ⟨x.n, x.q, F', B'⟩ ∨ ∃ j, j ≠ i ∧ G[j]? = some y := fun y hy => by
    obtain ⟨j, hj⟩ := List.getElem?_of_mem hy
    rcases get j y hj with ⟨_, e⟩ | e
    · exact Or.inl e
    · exact Or.inr ⟨j, e⟩
  have eG : gnL (G.set i ⟨x.n, x.q, F', B'⟩) = gnL G := by
    unfold gnL
    rw [List.map_set]
    refine List.ext_getElem? fun j => ?_
    rw [List.getElem?_set, List.length_map]
    by_cases e : i = j
    · subst e
      rw [if_pos rfl, if_pos hi, List.getElem?_map, hx]; rfl
    · rw [if_neg e]
  have nn : ∀ (j : Nat) (y : GenS), j ≠ i → G[j]? = some y → y.n ≠ x.n := fun j y hj hy e => by
    rcases Nat.lt_or_ge j i with e2 | e2
    · have := h.up j i y x e2 hy hx; omega
    · have := h.up i j x y (by omega) hx hy; omega
  have fF : ∀ a, F' a → F a ∨ w.heap.size ≤ a := fun a ha => (hf a ha).imp (h.fx x hm a) id
  refine ⟨(t.block p (h.lt p h.fp) fun e => (ho p e).1 rfl).trans h.block, h.win.turned t fun e => (ho wb e).2.1 rfl, by rw [eG]; exact h.own.turned t fun a ha e => (ho a e).2.2 ha, fun y hy => ?_, fun j l y z hjl hy hz => ?_, fun y hy => ?_, fun j l y z hjl hy hz a ha hb => ?_, fun y hy a ha => ?_, h.ne, Or.inl h.fp, Or.inl h.fw, fun a ha => Or.inl (h.fo a ha), fun y hy a ha => ?_, fun a ha => ?_, h.g1, h.g2, h.s1, h.s2, fun y hy => ?_, fun m hm2 => ?_⟩
  · rcases mem y hy with rfl | ⟨j, hj, hy2⟩
    · exact ok'
    · exact (h.ok y (List.mem_of_getElem? hy2)).turned t fun a ha e => h.ap j i y x hj hy2 hx a ha e
  · rcases get j y hy with ⟨rfl, rfl⟩ | ⟨hj, hy2⟩
    · rcases get l z hz with ⟨rfl, rfl⟩ | ⟨hl, hz2⟩
      · omega
      · exact h.up j l x z hjl hx hz2
    · rcases get l z hz with ⟨rfl, rfl⟩ | ⟨hl, hz2⟩
      · exact h.up j l y x hjl hy2 hx
      · exact h.up j l y z hjl hy2 hz2
  · rcases mem y hy with rfl | ⟨j, hj, hy2⟩
    · exact h.inw x hm
    · exact h.inw y (List.mem_of_getElem? hy2)
  · rcases get j y hy with ⟨rfl, rfl⟩ | ⟨hj, hy2⟩
    · rcases get l z hz with ⟨rfl, rfl⟩ | ⟨hl, hz2⟩
      · exact hjl rfl
      · rcases hf a ha with e | e
        · exact h.ap j l x z hjl hx hz2 a e hb
        · have := (h.ok z (List.mem_of_getElem? hz2)).lt a hb; omega
    · rcases get l z hz with ⟨rfl, rfl⟩ | ⟨hl, hz2⟩
      · rcases hf a hb with e | e
        · exact h.ap j l y x hjl hy2 hx a ha e
        · have := (h.ok y (List.mem_of_getElem? hy2)).lt a ha; omega
      · exact h.ap j l y z hjl hy2 hz2 a ha hb
  · rcases mem y hy with rfl | ⟨j, hj, hy2⟩
    · rcases hf a ha with e | e
      · exact ho a e
      · have h1 := h.lt p h.fp
        have h2 := h.lt wb h.fw
        exact ⟨by omega, by omega, fun e2 => by have := h.lt a (h.fo a e2); omega⟩
    · exact h.off y (List.mem_of_getElem? hy2) a ha
  · rcases mem y hy with rfl | ⟨j, hj, hy2⟩
    · exact Or.inr ha
    · exact Or.inl (h.fx y (List.mem_of_getElem? hy2) a ha)
  · rcases ha with ha | ha
    · exact Nat.lt_of_lt_of_le (h.lt a ha) t.size
    · exact ok'.lt a ha
  · rcases mem y hy with rfl | ⟨j, hj, hy2⟩
    · exact (upd_at L x.n B').symm
    · rw [upd_ne L B' (nn j y hj hy2)]; exact h.l y (List.mem_of_getElem? hy2)
  · have h1 : (⟨x.n, x.q, F', B'⟩ : GenS) ∈ G.set i ⟨x.n, x.q, F', B'⟩ := List.mem_set hi _
    rw [upd_ne L B' fun e => hm2 _ h1 e.symm]
    refine h.no m fun y hy e => ?_
    obtain ⟨j, hj⟩ := List.getElem?_of_mem hy
    by_cases e2 : j = i
    · subst e2
      rw [hx] at hj
      injection hj with hj
      subst hj
      exact hm2 _ h1 e
    · refine hm2 y ?_ e
      have : (G.set i ⟨x.n, x.q, F', B'⟩)[j]? = some y := by rw [List.getElem?_set, if_neg fun e => e2 e.symm]; exact hj
      exact List.mem_of_getElem? this
end RefYA
namespace RefYA
end RefYA
theorem RefY.keep (h : RefY w F p g s k b L) (t : Keep w w') : RefY w' F p g s k b L := by
  obtain ⟨wb, A, n, c, G, h⟩ := h; exact (h.keep t).r
theorem RefY.turned (h : RefY w F p g s k b L) (t : Turned H w w') (hd : ∀ a, F a → ¬ H a) : RefY w' F p g s k b L := by
  obtain ⟨wb, A, n, c, G, h⟩ := h; exact (h.turned t hd).r
theorem RefY.lt (h : RefY w F p g s k b L) : ∀ a, F a → a < w.heap.size := by
  obtain ⟨wb, A, n, c, G, h⟩ := h; exact h.lt
end
end Go.Proofs.YtgelalbmhllccaaGreat
/- The document's own window: In, End, Slot, Move; lists held side by side. -/
namespace Go.Proofs.YtgelalbmhllccaaGreat
open Go.RowKit
set_option linter.unusedVariables false
set_option linter.unusedSimpArgs false
section
variable {g k b : Nat} {w : World}
end
end Go.Proofs.YtgelalbmhllccaaGreat
/- The document's own relay: New, the basis of a generation. -/
namespace Go.Proofs.YtgelalbmhllccaaGreat
open Go.RowKit Lin
set_option linter.unusedVariables false
set_option linter.unusedSimpArgs false
section
variable {w : World} {F : Nat → Prop} {p g s k b wb n c : Nat} {L : Nat → List (List Nat)} {A : Option Addr} {G : List GenS}
end
end Go.Proofs.YtgelalbmhllccaaGreat
/- The document's own basis: Combine; a row of one's own. -/
namespace Go.Proofs.YtgelalbmhllccaaGreat
open Go.RowKit Lin
set_option linter.unusedVariables false
set_option linter.unusedSimpArgs false
/-- Rows being summed, in a box at qz. -/
structure CombI (w wr : World) (qz lo g s : Nat) (v : List Nat) (p : PairV) : Prop where
  row : wr.heap[qz]? = some (.cells #[p.a.val, p.b.val] 45 (0, 0))
  an : p.a.n = g
  bn : p.b.n = s
  a : LiesIn wr (fun b => lo ≤ b ∧ b < wr.heap.size) p.a
  b : LiesIn wr (fun b => lo ≤ b ∧ b < wr.heap.size) p.b
  xs : p.a.xs ++ p.b.xs = v
  keep : Keep w wr
theorem CombI.put {w wr w4 w5 : World} {qz lo g s : Nat} {v v' xs ys : List Nat} {p p' : PairV} (h : CombI w wr qz lo g s v p) (hb : w5.heap[qz]? = some (.cells #[p'.a.val, p'.b.val] 45 (0, 0))) (t : Turned (fun b => b = qz) w4 w5) (k4 : Keep wr w4) (hC : SumR wr.drew w4 g s xs ys p') (hlo : lo ≤ wr.heap.size) (hw : w.heap.size ≤ qz) (hx : p'.a.xs ++ p'.b.xs = v') : CombI w w5 qz lo g s v' p' := by
  have hq := (Array.getElem?_eq_some_iff.1 h.row).1
  have hd : ∀ b, (wr.heap.size ≤ b ∧ b < w4.heap.size) → ¬ b = qz := fun b hb => by omega
  have hm : ∀ b, (wr.heap.size ≤ b ∧ b < w4.heap.size) → (lo ≤ b ∧ b < w5.heap.size) := fun b hb => ⟨by omega, Nat.lt_of_lt_of_le hb.2 t.size⟩
  exact ⟨hb, hC.an, hC.bn, ((hC.a.lies.mono fun b hb => hC.a.1.lt b hb).turned t hd).mono hm, ((hC.b.lies.mono fun b hb => hC.b.1.lt b hb).turned t hd).mono hm, hx, t.keep (h.keep.trans k4) fun i e => by rw [e]; exact hw⟩
section
variable {w : World} {F G : Nat → Prop} {b g s bi br : Nat} {iv : List Bool} {R : List PairV} {B : List (List Nat)}
end
end Go.Proofs.YtgelalbmhllccaaGreat
/- The document's own basis: Solve, Same; a row in new memory. -/
namespace Go.Proofs.YtgelalbmhllccaaGreat
open Go.RowKit Lin
set_option linter.unusedVariables false
set_option linter.unusedSimpArgs false
section
variable {w : World} {F G : Nat → Prop} {b g s bi br : Nat} {iv : List Bool} {R : List PairV} {B : List (List Nat)}
end
end Go.Proofs.YtgelalbmhllccaaGreat
/- The document's own relay: Take, Solve, Rows, Rank, Clear. -/
namespace Go.Proofs.YtgelalbmhllccaaGreat
open Go.RowKit Lin
set_option linter.unusedVariables false
set_option linter.unusedSimpArgs false
/-- The relay goes on; what it holds is what it held, or new. -/
def YNext (w w' : World) (F F' : Nat → Prop) (p g s k b : Nat) (L : Nat → List (List Nat)) : Prop := RefY w' F' p g s k b L ∧ (∀ j, F' j → F j ∨ w.heap.size ≤ j) ∧ Turned F w w'
section
variable {w w' w0 : World} {F H F2 : Nat → Prop} {p g s k b wb n c : Nat} {L : Nat → List (List Nat)} {A : Option Addr} {G : List GenS}
theorem YNext.later (h : YNext w w' F F2 p g s k b L) (kp : Keep w' w0) : YNext w w0 F F2 p g s k b L := ⟨h.1.keep kp, h.2.1, h.2.2.trans (Turned.of_keep (F := F) kp) fun j e => Or.inl e⟩
theorem YNext.stay (h : RefY w F p g s k b L) (kp : Keep w w') : YNext w w' F F p g s k b L := ⟨h.keep kp, fun j e => Or.inl e, Turned.of_keep kp⟩
end
end Go.Proofs.YtgelalbmhllccaaGreat
/- The document's own draw: ref11's Coefs and Turn. -/
namespace Go.Proofs.YtgelalbmhllccaaGreat
open Go.RowKit
set_option linter.unusedVariables false
set_option linter.unusedSimpArgs false
end Go.Proofs.YtgelalbmhllccaaGreat
/- The document's own relay: Send, Rank, Clear. -/
namespace Go.Proofs.YtgelalbmhllccaaGreat
open Go.RowKit Lin
set_option linter.unusedVariables false
set_option linter.unusedSimpArgs false
section
variable {w w' w0 : World} {F H F2 : Nat → Prop} {p g s k b wb n c : Nat} {L : Nat → List (List Nat)} {A : Option Addr} {G : List GenS}
theorem RefY.out (h : RefY w F p g s k b L) {m : Nat} (hin : winIn b k m = false) : L m = [] := by
  obtain ⟨wb, A, n, c, G, h⟩ := h
  exact h.no m fun x hx e => by have := h.inw x hx; rw [e, hin] at this; cases this
theorem YNext.own {w1 w3 w4 : World} (h : YNext w1 w3 F F2 p g s k b L) (kp : Keep w w1) (hF : ¬ F w.heap.size) (hs : w1.heap.size = w.heap.size + 1) (t : Turned (fun a => a = w.heap.size) w3 w4) : YNext w w4 F F2 p g s k b L := by
  refine ⟨h.1.turned t fun a ha e => ?_, fun j e => (h.2.1 j e).imp id fun e => Nat.le_trans kp.size e, ((Turned.of_keep (F := F) kp).trans h.2.2 fun j e => Or.inl e).trans t fun j e => Or.inr (by omega)⟩
  rcases h.2.1 a ha with e2 | e2
  · exact hF (e ▸ e2)
  · omega
end
end Go.Proofs.YtgelalbmhllccaaGreat
/- The document's own relay: Ranks. -/
namespace Go.Proofs.YtgelalbmhllccaaGreat
open Go.RowKit Lin
set_option linter.unusedVariables false
set_option linter.unusedSimpArgs false
section
variable {w w' w0 : World} {F H F2 F3 : Nat → Prop} {p g s k b wb n c : Nat} {L L' : Nat → List (List Nat)} {A : Option Addr} {G : List GenS}
theorem YNext.trans {b' : Nat} (h : YNext w w' F F2 p g s k b L) (h2 : YNext w' w0 F2 F3 p g s k b' L') : YNext w w0 F F3 p g s k b' L' := by
  have e : ∀ j, F2 j → F j ∨ w.heap.size ≤ j := h.2.1
  refine ⟨h2.1, fun j hj => ?_, h.2.2.trans h2.2.2 e⟩
  rcases h2.2.1 j hj with h3 | h3
  · exact e j h3
  · exact Or.inr (Nat.le_trans h.2.2.size h3)
theorem RefY.win (h : RefY w F p g s k b L) : ∃ wb, RefW w wb k b ∧ F wb ∧ w.cell? ⟨p, 2, none⟩ = some (.pointer (some ⟨wb, 0, none⟩)) := by
  obtain ⟨wb, A, n, c, G, h⟩ := h
  exact ⟨wb, h.win, h.fw, h.c2⟩
theorem RefY.len (h : RefY w F p g s k b L) (m : Nat) : (L m).length ≤ g ∧ g ≤ 255 := by
  obtain ⟨wb, A, n, c, G, h⟩ := h
  refine ⟨?_, h.g2⟩
  by_cases e : ∃ x ∈ G, x.n = m
  · obtain ⟨x, hx, rfl⟩ := e
    rw [← h.l x hx]
    exact (h.ok x hx).1.length_le
  · rw [h.no m fun x hx e2 => e ⟨x, hx, e2⟩]; exact Nat.zero_le _
end
end Go.Proofs.YtgelalbmhllccaaGreat
/- The document's own relay: Move. -/
namespace Go.Proofs.YtgelalbmhllccaaGreat
open Go.RowKit Lin
set_option linter.unusedVariables false
set_option linter.unusedSimpArgs false
section
variable {w w' w0 w1 w2 : World} {F H F2 F3 : Nat → Prop} {p g s k b wb n c : Nat} {L L' : Nat → List (List Nat)} {A : Option Addr} {G : List GenS}
end
section
variable {w : World} {F : Nat → Prop} {p g s k b : Nat} {L : Nat → List (List Nat)}
end
end Go.Proofs.YtgelalbmhllccaaGreat
/- The landed relay: Copy. -/
namespace Go.Proofs.YtgelalbmhllccaaGreat
open Go.RowKit Lin
set_option linter.unusedVariables false
set_option linter.unusedSimpArgs false
section
variable {w : World} {F : Nat → Prop} {p g s k b wb : Nat} {L : Nat → List (List Nat)} {S : List Slot}
/-- The first i places are copied. -/
def Copied (w wr : World) (p wb g s : Nat) (S S' : List Slot) (i : Nat) : Prop :=
  RelC wr p wb g s S' ∧ (∀ j x, S'[j]? = some x → (j < i → ∃ y, S[j]? = some y ∧ (x.p = none ↔ y.p = none) ∧ x.B = y.B ∧ ∀ b, x.F b → w.heap.size ≤ b) ∧ (i ≤ j → x = Slot.none_)) ∧ Turned (fun j => j = p) w wr
theorem Copied.start (h : RelC w p wb g s slots0) : Copied w w p wb g s S slots0 0 := ⟨h, fun j x hx => ⟨fun e => by omega, fun _ => slots0_get hx⟩, Turned.refl _ _⟩
theorem Copied.step {w1 w2 : World} {S1 : List Slot} {i : Nat} {x y : Slot} (h : Copied w w1 p wb g s S S1 i) (k : Keep w1 w2) (hi : i < 16) (ok : x.Ok w2 g s) (hf : ∀ j, x.F j → w1.heap.size ≤ j) (hwb : wb < w1.heap.size) (hy : S[i]? = some y) (hp : x.p = none ↔ y.p = none) (hB : x.B = y.B) : Copied w (w2.setCell ⟨p, 3 + i, none⟩ x.val) p wb g s S (S1.set i x) (i + 1) := by
  refine ⟨h.1.set hi k ok hf hwb, fun j z hz => ?_, (h.2.2.then_keep k).trans (Turned.set (F := fun j => j = p) w2 ⟨p, 3 + i, none⟩ _ rfl) fun j e => Or.inl e⟩
  rcases set_get hz with ⟨rfl, rfl⟩ | ⟨hj, hz2⟩
  · exact ⟨fun _ => ⟨y, hy, hp, hB, fun b hb => Nat.le_trans h.2.2.size (hf b hb)⟩, fun e => by omega⟩
  · exact ⟨fun e => (h.2.1 j z hz2).1 (by omega), fun e => (h.2.1 j z hz2).2 (by omega)⟩
end
end Go.Proofs.YtgelalbmhllccaaGreat
/- Both relays side by side: the landed one and the document's own. -/
namespace Go.Proofs.YtgelalbmhllccaaGreat
open Go.RowKit Lin
set_option linter.unusedVariables false
/-- The landed relay at p, the document's own at q: their footprints lie apart, and both in memory made since W. -/
structure BothR (W w : World) (p q g s k b : Nat) (L : Nat → List (List Nat)) (b' : Nat) (L' : Nat → List (List Nat)) (F F' : Nat → Prop) : Prop where
  y : RelR w F p g s k b L
  z : RefY w F' q g s k b' L'
  ap : ∀ a, F a → ¬ F' a
  lo : ∀ a, F a → W.heap.size ≤ a
  lo' : ∀ a, F' a → W.heap.size ≤ a
  keep : Keep W w
namespace BothR
variable {W w w2 : World} {p p2 q g s k b b' b2 : Nat} {L L' L2 : Nat → List (List Nat)} {F F' F2 D : Nat → Prop}
theorem later (h : BothR W w p q g s k b L b' L' F F') (kp : Keep w w2) : BothR W w2 p q g s k b L b' L' F F' := ⟨h.y.keep kp, h.z.keep kp, h.ap, h.lo, h.lo', h.keep.trans kp⟩
/-- The landed one goes on (or another stands in its place). -/
theorem left (h : BothR W w p q g s k b L b' L' F F') (r : RelR w2 F2 p2 g s k b2 L2) (f : ∀ x, F2 x → F x ∨ w.heap.size ≤ x) (t : Turned F w w2) : BothR W w2 p2 q g s k b2 L2 b' L' F2 F' := by
  have hz := h.keep.size
  refine ⟨r, h.z.turned t fun a ha e => h.ap a e ha, fun a ha hb => ?_, fun a ha => ?_, h.lo', t.keep h.keep fun x e => h.lo x e⟩
  · rcases f a ha with e | e
    · exact h.ap a e hb
    · have := h.z.lt a hb; omega
  · rcases f a ha with e | e
    · exact h.lo a e
    · omega
/-- The document's own goes on. -/
theorem right (h : BothR W w p q g s k b L b' L' F F') (y : YNext w w2 F' F2 q g s k b2 L2) : BothR W w2 p q g s k b L b2 L2 F F2 := by
  have hz := h.keep.size
  refine ⟨h.y.turned y.2.2 fun a ha e => h.ap a ha e, y.1, fun a ha hb => ?_, h.lo, fun a ha => ?_, y.2.2.keep h.keep fun x e => h.lo' x e⟩
  · rcases y.2.1 a hb with e | e
    · exact h.ap a ha e
    · have := h.y.lt a ha; omega
  · rcases y.2.1 a ha with e | e
    · exact h.lo' a e
    · omega
/-- Something else turns. -/
theorem other (h : BothR W w p q g s k b L b' L' F F') (t : Turned D w w2) (hD : ∀ a, D a → W.heap.size ≤ a ∧ ¬ F a ∧ ¬ F' a) : BothR W w2 p q g s k b L b' L' F F' :=
  ⟨h.y.turned t fun a ha e => (hD a e).2.1 ha, h.z.turned t fun a ha e => (hD a e).2.2 ha, h.ap, h.lo, h.lo', t.keep h.keep fun x e => (hD x e).1⟩
end BothR
end Go.Proofs.YtgelalbmhllccaaGreat
/- The landed relay: Clear, of what may be asked. -/
namespace Go.Proofs.YtgelalbmhllccaaGreat
open Go.RowKit Lin
set_option linter.unusedVariables false
section
variable {w : World} {F : Nat → Prop} {p g s k b : Nat} {L : Nat → List (List Nat)}
end
end Go.Proofs.YtgelalbmhllccaaGreat
