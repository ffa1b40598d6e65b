/- A basis: rows of coefficients and payload, side by side, reduced as they come. -/
import Derived.Test.YtcjjhblgejkkeaaGreatMat
import Derived.Test.YtcjjhblgejkkeaaGreatMp
namespace Go.Proofs.YtcjjhblgejkkeaaGreat
open Lin
/-- What the rows leave of one. -/
def leftB (nc : Nat) (B : List (List Nat)) (row : List Nat) : List Nat := clearTo nc B row B.length
/-- A row is put in, if it is new. -/
def insB (g s : Nat) (B : List (List Nat)) (row : List Nat) : List (List Nat) := if vLead g (leftB (g + s) B row) < 0 then B else insertN (g + s) B row
/-- A basis of g and s: reduced, each row with its lead among the coefficients. -/
structure Bas (g s : Nat) (B : List (List Nat)) : Prop where
  red : RedL (g + s) B
  inj : ∀ x : Nat → By, InSpan B.length (fn B) x → (∀ j, j < g → x j = 0) → x = fun _ => 0
theorem Bas.nil (g s : Nat) : Bas g s [] := ⟨redL_nil _, fun x h _ => by
  obtain ⟨c, rfl⟩ := h
  rfl⟩
theorem vLead_some {n : Nat} {xs : List Nat} (h : ¬ vLead n xs < 0) : ∃ L, vLeadTo xs n = some L ∧ vLead n xs = (L : Int) := by
  unfold vLead at h ⊢
  split at h
  · next i e => exact ⟨i, e, rfl⟩
  · omega
theorem vLead_none {n : Nat} {xs : List Nat} (h : vLead n xs < 0) : ∀ i, i < n → xs.getD i 0 = 0 := by
  refine (vLeadTo_none xs n).1 ?_
  unfold vLead at h
  split at h
  · omega
  · assumption
theorem vLead_neg {n : Nat} {xs : List Nat} (h : ∀ i, i < n → xs.getD i 0 = 0) : vLead n xs < 0 := by
  rw [vLead, (vLeadTo_none xs n).2 h]; decide
theorem vLead_at {n L : Nat} {xs : List Nat} (hL : L < n) (h0 : xs.getD L 0 ≠ 0) (hz : ∀ j, j < L → xs.getD j 0 = 0) : vLead n xs = (L : Int) := by
  rw [vLead, (vLeadTo_some xs n L).2 ⟨hL, h0, hz⟩]
theorem vLead_less {g nc : Nat} {xs : List Nat} (hg : g ≤ nc) (h : ¬ vLead g xs < 0) : vLead nc xs = vLead g xs := by
  obtain ⟨L, h1, h2⟩ := vLead_some h
  obtain ⟨a, b, c⟩ := (vLeadTo_some xs g L).1 h1
  rw [h2]; exact vLead_at (by omega) b c
theorem left_len {nc : Nat} {B : List (List Nat)} {row : List Nat} (h : row.length = nc) : (leftB nc B row).length = nc := clearTo_len nc B row h _
theorem left_all {nc : Nat} {B : List (List Nat)} {row : List Nat} (hB : RowsOk nc B) (h : AllB row) : AllB (leftB nc B row) := clearTo_all hB h _ (Nat.le_refl _)
/-- What is left, as rows over the field. -/
theorem left_vec {nc : Nat} {B : List (List Nat)} {row : List Nat} {l : Nat → Nat} (hB : RowsOk nc B) (hr : Red B.length (fn B) l) (hl : row.length = nc) (ha : AllB row) : vec (leftB nc B row) = fun j => vec row j + comb B.length (fn B) (fun i => vec row (l i)) j := by
  rw [leftB, vec_clearTo hB hr hl ha _ (Nat.le_refl _), clearSeq_eq laws hr _ (Nat.le_refl _)]
theorem left_nought {nc : Nat} {B : List (List Nat)} {row : List Nat} {l : Nat → Nat} (hB : RowsOk nc B) (hr : Red B.length (fn B) l) (hl : row.length = nc) (ha : AllB row) {i : Nat} (hi : i < B.length) : vec (leftB nc B row) (l i) = 0 := by
  rw [left_vec hB hr hl ha]; exact cleared laws hr _ hi
namespace Bas
variable {g s : Nat} {B : List (List Nat)}
theorem ok (h : Bas g s B) : RowsOk (g + s) B := h.red.1
/-- Each lead is that of a coefficient. -/
theorem leads (h : Bas g s B) : ∃ l, Red B.length (fn B) l ∧ ∀ i, i < B.length → l i < g := by
  obtain ⟨hok, l, hr⟩ := h.red
  refine ⟨l, hr, fun i hi => ?_⟩
  rcases Nat.lt_or_ge (l i) g with e | e
  · exact e
  · have := h.inj (fn B i) (InSpan.row laws (fn B) hi) fun j hj => hr.low i j hi (by omega)
    have h1 := hr.one i hi
    rw [this] at h1
    exact (laws.nought h1.symm).elim
theorem lead_at (h : Bas g s B) {l : Nat → Nat} (hr : Red B.length (fn B) l) {i : Nat} (hi : i < B.length) : vLead (g + s) (B.getD i []) = (l i : Int) := (red_lead h.ok hr hi).1
theorem length_le (h : Bas g s B) : B.length ≤ g := by
  obtain ⟨l, hr, hl⟩ := h.leads
  rcases Nat.eq_zero_or_pos B.length with e | e
  · omega
  · have := hr.lead_top hl e; omega
end Bas
theorem byte_zero {x : Nat} (hx : x < 256) (h : byte x = 0) : x = 0 := by
  have := congrArg By.v h
  rwa [byte_v hx] at this
theorem vec_zero_iff {xs : List Nat} (ha : AllB xs) (j : Nat) : vec xs j = 0 ↔ xs.getD j 0 = 0 :=
  ⟨fun h => byte_zero (ha.getD j) h, fun h => by show byte (xs.getD j 0) = 0; rw [h]; rfl⟩
theorem makes_one {row : List Nat} {b : Nat → By} (h : Makes [row] b) : ∃ c, b = fun j => c * vec row j := by
  obtain ⟨c, rfl⟩ := h
  refine ⟨c 0, funext fun j => ?_⟩
  show (0 : By) + c 0 * fn [row] 0 j = _
  rw [laws.add_comm, laws.add_zero]; rfl
/-- A row is put in: a basis again. -/
theorem insB_bas {g s : Nat} {B : List (List Nat)} {row : List Nat} (h : Bas g s B) (hl : row.length = g + s) (ha : AllB row) : Bas g s (insB g s B row) := by
  rw [insB]
  split
  · exact h
  · next hlead =>
    obtain ⟨hT, hS⟩ := insertN_red h.red hl ha
    obtain ⟨l, hr, hlt⟩ := h.leads
    obtain ⟨L, h1, h2⟩ := vLead_some hlead
    obtain ⟨hLg, hL0, hLz⟩ := (vLeadTo_some _ g L).1 h1
    refine ⟨hT, fun x hx hz => ?_⟩
    have hx2 : Makes (B ++ [row]) x := InSpan.trans laws hx hS.1
    obtain ⟨y, b, hy, hb, rfl⟩ := makes_append.1 hx2
    obtain ⟨c, rfl⟩ := makes_one hb
    have hv := left_vec h.ok hr hl ha
    have hn := fun i hi => left_nought h.ok hr hl ha (i := i) hi
    have hva := left_all (B := B) h.ok ha
    obtain ⟨v, hvv⟩ : ∃ v, leftB (g + s) B row = v := ⟨_, rfl⟩
    rw [hvv] at hv hn hva hL0 hLz
    have hrow : ∀ j, vec row j = vec v j + comb B.length (fn B) (fun i => vec row (l i)) j := fun j => by
      rw [hv]
      show _ = vec row j + _ + _
      rw [laws.add_assoc, laws.add_self, laws.add_zero]
    have hy2 : InSpan B.length (fn B) fun j => y j + c * comb B.length (fn B) (fun i => vec row (l i)) j := InSpan.add laws hy (InSpan.mul laws c ⟨_, rfl⟩)
    obtain ⟨y2, hy2e⟩ : ∃ y2, (fun j => y j + c * comb B.length (fn B) (fun i => vec row (l i)) j) = y2 := ⟨_, rfl⟩
    rw [hy2e] at hy2
    have e : ∀ j, y j + c * vec row j = y2 j + c * vec v j := fun j => by
      rw [hrow j, ← hy2e]
      show _ = y j + _ + _
      rw [laws.mul_add, laws.add_assoc]
      congr 1
      exact laws.add_comm _ _
    have hz2 : ∀ j, j < g → y2 j + c * vec v j = 0 := fun j hj => by rw [← e]; exact hz j hj
    have hy0 := hr.nought laws hy2 fun i hi => by
      have := hz2 (l i) (hlt i hi)
      rw [hn i hi, laws.mul_zero, laws.add_zero] at this; exact this
    have hc : c = 0 := by
      have h3 := hz2 L hLg
      rw [hy0, laws.zero_add, laws.mul_comm] at h3
      exact Laws.mul_eq_zero laws h3 fun e0 => hL0 ((vec_zero_iff hva L).1 e0)
    funext j
    show y j + c * vec row j = 0
    rw [e j, hy0, hc, laws.zero_mul, laws.add_zero]
/-- Is a row of these coefficients of the rows' span? -/
def inB (g s : Nat) (B : List (List Nat)) (row : List Nat) : Prop := vLead g (leftB (g + s) B row) < 0
instance (g s : Nat) (B : List (List Nat)) (row : List Nat) : Decidable (inB g s B row) := by unfold inB; infer_instance
/-- That hangs on the coefficients alone. -/
theorem inB_congr {g s : Nat} {B : List (List Nat)} {row row' : List Nat} (h : Bas g s B) (hl : row.length = g + s) (ha : AllB row) (hl' : row'.length = g + s) (ha' : AllB row') (he : ∀ j, j < g → row.getD j 0 = row'.getD j 0) : inB g s B row ↔ inB g s B row' := by
  obtain ⟨l, hr, hlt⟩ := h.leads
  have hv := left_vec h.ok hr hl ha
  have hv' := left_vec h.ok hr hl' ha'
  have e0 : ∀ j, j < g → vec row j = vec row' j := fun j hj => by show byte _ = byte _; rw [he j hj]
  have e1 : comb B.length (fn B) (fun i => vec row (l i)) = comb B.length (fn B) (fun i => vec row' (l i)) := funext fun j => sm_congr fun i hi => by
    show vec row (l i) * _ = vec row' (l i) * _
    rw [e0 _ (hlt i hi)]
  have e2 : ∀ j, j < g → (leftB (g + s) B row).getD j 0 = (leftB (g + s) B row').getD j 0 := fun j hj => by
    have : vec (leftB (g + s) B row) j = vec (leftB (g + s) B row') j := by rw [hv, hv', e1]; show _ + _ = _ + _; rw [e0 j hj]
    have := congrArg By.v this
    rwa [vec_v (left_all h.ok ha), vec_v (left_all h.ok ha')] at this
  constructor
  · exact fun hh => vLead_neg fun i hi => by rw [← e2 i hi]; exact vLead_none hh i hi
  · exact fun hh => vLead_neg fun i hi => by rw [e2 i hi]; exact vLead_none hh i hi
theorem insB_in {g s : Nat} {B : List (List Nat)} {row : List Nat} (h : inB g s B row) : insB g s B row = B := if_pos h
theorem insB_new {g s : Nat} {B : List (List Nat)} {row : List Nat} (h : ¬ inB g s B row) : insB g s B row = insertN (g + s) B row := if_neg h
theorem layTo_len (nc : Nat) (M : List (List Nat)) (u : List Nat) (L : Nat) : ∀ k, (layTo nc M u L k).1.length = k + (if (layTo nc M u L k).2 = true then 1 else 0)
  | 0 => rfl
  | k + 1 => by
    have ih := layTo_len nc M u L k
    rw [layTo]
    cases h2 : (layTo nc M u L k).2 with
    | true =>
      rw [h2, if_pos rfl] at ih
      simp only [Bool.not_true, Bool.false_and, if_neg (show ¬ (false = true) by decide), Bool.true_or, if_pos, List.length_append, ih, List.length_singleton]
    | false =>
      rw [h2, if_neg (show ¬ (false = true) by decide)] at ih
      by_cases h3 : (L : Int) < vLead nc (M.getD k [])
      · have e : decide ((L : Int) < vLead nc (M.getD k [])) = true := decide_eq_true h3
        simp only [e, Bool.not_false, Bool.and_self, if_pos, Bool.false_or, List.length_append, ih, List.length_singleton]
      · have e : decide ((L : Int) < vLead nc (M.getD k [])) = false := decide_eq_false h3
        simp only [e, Bool.and_false, if_neg (show ¬ (false = true) by decide), Bool.or_false, List.length_append, ih, List.length_singleton]
theorem insertN_len {nc : Nat} {M : List (List Nat)} {row : List Nat} (h : ¬ vLead nc (leftB nc M row) < 0) : (insertN nc M row).length = M.length + 1 := by
  have e : insertN nc M row = if (layTo nc M (vScale nc (leftB nc M row) (invN ((leftB nc M row).getD (vLead nc (leftB nc M row)).toNat 0))) (vLead nc (leftB nc M row)).toNat M.length).2 = true then (layTo nc M (vScale nc (leftB nc M row) (invN ((leftB nc M row).getD (vLead nc (leftB nc M row)).toNat 0))) (vLead nc (leftB nc M row)).toNat M.length).1 else (layTo nc M (vScale nc (leftB nc M row) (invN ((leftB nc M row).getD (vLead nc (leftB nc M row)).toNat 0))) (vLead nc (leftB nc M row)).toNat M.length).1 ++ [vScale nc (leftB nc M row) (invN ((leftB nc M row).getD (vLead nc (leftB nc M row)).toNat 0))] := by
    rw [insertN]; exact if_neg h
  rw [e]
  have hl := layTo_len nc M (vScale nc (leftB nc M row) (invN ((leftB nc M row).getD (vLead nc (leftB nc M row)).toNat 0))) (vLead nc (leftB nc M row)).toNat M.length
  split
  · next h1 => rw [hl, if_pos h1]
  · next h1 => rw [List.length_append, hl, if_neg h1]; rfl
theorem insB_len {g s : Nat} {B : List (List Nat)} {row : List Nat} : (insB g s B row).length = B.length + (if inB g s B row then 0 else 1) := by
  by_cases h : inB g s B row
  · rw [insB_in h, if_pos h]; rfl
  · rw [insB_new h, if_neg h]
    refine insertN_len fun h2 => h ?_
    have := vLead_none h2
    exact vLead_neg fun i hi => this i (by omega)
/-- What was put in is of the span now. -/
theorem inB_after {g s : Nat} {B : List (List Nat)} {row : List Nat} (h : Bas g s B) (hl : row.length = g + s) (ha : AllB row) : inB g s (insB g s B row) row := by
  by_cases hin : inB g s B row
  · rw [insB_in hin]; exact hin
  · have hb := insB_bas h hl ha
    obtain ⟨hT, hS⟩ := insertN_red h.red hl ha
    obtain ⟨l, hr, hlt⟩ := hb.leads
    rw [insB_new hin] at hb hr ⊢
    have hm : InSpan (insertN (g + s) B row).length (fn (insertN (g + s) B row)) (vec row) := by
      refine InSpan.trans laws ?_ hS.2
      have := InSpan.row laws (fn (B ++ [row])) (show B.length < (B ++ [row]).length by simp)
      rwa [show fn (B ++ [row]) B.length = vec row by rw [fn_append_row B row B.length (by omega), insM_at]] at this
    have hv := left_vec hb.ok hr hl ha
    have h0 : vec (leftB (g + s) (insertN (g + s) B row) row) = fun _ => 0 := by
      refine hr.nought laws ?_ fun i hi => left_nought hb.ok hr hl ha hi
      rw [hv]; exact InSpan.add laws hm ⟨_, rfl⟩
    exact vLead_neg fun i _ => (vec_zero_iff (left_all hb.ok ha) i).1 (by rw [h0])
end Go.Proofs.YtcjjhblgejkkeaaGreat
/- Rows that are combinations of symbols, coefficients and payload alike: what a basis makes of them. -/
namespace Go.Proofs.YtcjjhblgejkkeaaGreat
open Lin
/-- What coefficients make of the symbols. -/
def payV (g s : Nat) (M : List (List Nat)) (c : List Nat) : List Nat := vComb s M c g
/-- A row that goes with the symbols. -/
def rowV (g s : Nat) (M : List (List Nat)) (c : List Nat) : List Nat := c ++ payV g s M c
/-- The symbols, each behind its unit. -/
def symR (g : Nat) (M : List (List Nat)) : Nat → Nat → By := fun i => pairV g (unitM i) (fn M i)
theorem vec_pair {a b : List Nat} {n : Nat} (h : a.length = n) : vec (a ++ b) = pairV n (vec a) (vec b) := by
  funext j
  rcases Nat.lt_or_ge j n with hj | hj
  · rw [pair_left hj]
    show byte ((a ++ b).getD j 0) = byte (a.getD j 0)
    rw [List.getD_eq_getElem?_getD, List.getElem?_append_left (by omega), ← List.getD_eq_getElem?_getD]
  · obtain ⟨i, rfl⟩ : ∃ i, j = n + i := ⟨j - n, by omega⟩
    rw [pair_right]
    show byte ((a ++ b).getD (n + i) 0) = byte (b.getD i 0)
    rw [List.getD_eq_getElem?_getD, List.getElem?_append_right (by omega), h, Nat.add_sub_cancel_left, ← List.getD_eq_getElem?_getD]
section
variable {g s : Nat} {M : List (List Nat)} {c : List Nat}
theorem payV_eq (h : Sz g s M) (hc : AllB c) : payV g s M c = rowN c M g s := tab_congr fun k _ => sumX_congr fun i hi => mul_comm' _ _ ((h.at_ hi).2.getD k) (hc.getD i)
theorem payV_len : (payV g s M c).length = s := tab_length _ _
theorem rowV_ok (h : Sz g s M) (hl : c.length = g) (hc : AllB c) : (rowV g s M c).length = g + s ∧ AllB (rowV g s M c) :=
  ⟨by rw [rowV, List.length_append, hl, payV_len], hc.append (by rw [payV_eq h hc]; exact rowN_all hc)⟩
theorem vec_rowV (h : Sz g s M) (hl : c.length = g) (hc : AllB c) : vec (rowV g s M c) = comb g (symR g M) (vec c) := by
  rw [rowV, vec_pair hl, payV_eq h hc, vec_rowN hc h]
  show _ = comb g (fun i => pairV g (unitM i) (fn M i)) (vec c)
  rw [comb_pair, mul_unit laws (vec_wide hl)]
/-- What goes with the symbols and has no coefficients is nothing. -/
theorem symR_zero {x : Nat → By} (h : InSpan g (symR g M) x) (hz : ∀ j, j < g → x j = 0) : x = fun _ => 0 := by
  obtain ⟨c, rfl⟩ := h
  have hc : ∀ i, i < g → c i = 0 := fun i hi => by
    have h1 := hz i hi
    have e : comb g (symR g M) c i = c i := by
      show sm g (fun k => c k * symR g M k i) = c i
      rw [sm_one laws hi (fun k hk hne => by
        rw [show symR g M k i = unitM k i from pair_left hi, unitM, if_neg (fun e => hne e.symm), laws.mul_zero]), show symR g M i i = unitM i i from pair_left hi, unitM, if_pos rfl, laws.mul_one]
    rw [e] at h1; exact h1
  exact funext fun j => sm_zero laws g fun i hi => by rw [hc i hi, laws.zero_mul]
/-- A row of bytes that goes with the symbols is told by its coefficients. -/
theorem symR_row (h : Sz g s M) {r : List Nat} (hl : r.length = g + s) (ha : AllB r) (hr : InSpan g (symR g M) (vec r)) : r = rowV g s M (r.take g) := by
  have ht : (r.take g).length = g := by rw [List.length_take]; omega
  have hta : AllB (r.take g) := ha.take g
  have ok := rowV_ok h ht hta
  refine vec_inj (hl.trans ok.1.symm) ha ok.2 ?_
  have hx : InSpan g (symR g M) fun j => vec r j + vec (rowV g s M (r.take g)) j := InSpan.add laws hr ⟨_, vec_rowV h ht hta⟩
  have h0 := symR_zero hx fun j hj => by
    have e : vec (rowV g s M (r.take g)) j = vec r j := by
      rw [rowV, vec_pair ht, pair_left hj]
      show byte ((r.take g).getD j 0) = byte (r.getD j 0)
      rw [List.getD_eq_getElem?_getD, List.getElem?_take, if_pos hj, ← List.getD_eq_getElem?_getD]
    rw [e, laws.add_self]
  funext j
  exact laws.eq_of_add (congrFun h0 j)
/-- Of such rows, all that is put in is put in as into a matrix. -/
theorem insB_sym {B : List (List Nat)} {row : List Nat} (hB : Bas g s B) (hw : Within B.length (fn B) g (symR g M)) (hl : row.length = g + s) (ha : AllB row) (hr : InSpan g (symR g M) (vec row)) :
    insB g s B row = insertN (g + s) B row ∧ Within (insB g s B row).length (fn (insB g s B row)) g (symR g M) ∧ SameSpan (insB g s B row) (B ++ [row]) := by
  have e : insB g s B row = insertN (g + s) B row := by
    by_cases hin : inB g s B row
    · rw [insB_in hin]
      obtain ⟨l, hrd, hlt⟩ := hB.leads
      have hv := left_vec hB.ok hrd hl ha
      have hs : InSpan g (symR g M) (vec (leftB (g + s) B row)) := by
        rw [hv]; exact InSpan.add laws hr (InSpan.trans laws ⟨_, rfl⟩ hw)
      have h0 := symR_zero hs fun j hj => (vec_zero_iff (left_all hB.ok ha) j).2 (vLead_none hin j hj)
      have hneg : vLead (g + s) (leftB (g + s) B row) < 0 := vLead_neg fun i _ => (vec_zero_iff (left_all hB.ok ha) i).1 (by rw [h0])
      have : insertN (g + s) B row = B := by rw [insertN]; exact if_pos hneg
      exact this.symm
    · exact insB_new hin
  obtain ⟨_, hS⟩ := insertN_red hB.red hl ha
  rw [e]
  refine ⟨rfl, hS.1.trans laws ?_, hS⟩
  intro i hi
  rw [List.length_append, List.length_singleton] at hi
  rw [fn_append_row B row i hi]
  by_cases e2 : i < B.length
  · rw [insM_lt e2]; exact hw i e2
  · obtain rfl : i = B.length := by omega
    rw [insM_at]; exact hr
/-- The basis behind the first k rows. -/
def basK (g s : Nat) (rows : List (List Nat)) (k : Nat) : List (List Nat) := (rows.take k).foldl (insB g s) []
theorem basK_succ {rows : List (List Nat)} {k : Nat} (hk : k < rows.length) : basK g s rows (k + 1) = insB g s (basK g s rows k) (rows.getD k []) := by
  rw [basK, List.take_add_one, List.getElem?_eq_getElem hk, Option.toList_some, List.foldl_append, List.getD_eq_getElem?_getD, List.getElem?_eq_getElem hk]; rfl
/-- Rows that go with the symbols. -/
def SymRows (g s : Nat) (M rows : List (List Nat)) : Prop := ∀ r ∈ rows, r.length = g + s ∧ AllB r ∧ InSpan g (symR g M) (vec r)
theorem basK_sym {rows : List (List Nat)} (hR : SymRows g s M rows) : ∀ k, k ≤ rows.length → Bas g s (basK g s rows k) ∧ Within (basK g s rows k).length (fn (basK g s rows k)) g (symR g M) ∧ SameSpan (basK g s rows k) (rows.take k) ∧ basK g s rows k = reduceTo (g + s) rows k
  | 0, _ => ⟨Bas.nil g s, fun i hi => by simp [basK] at hi, by rw [List.take_zero]; exact SameSpan.refl [], rfl⟩
  | k + 1, h => by
    obtain ⟨h1, h2, h3, h4⟩ := basK_sym hR k (by omega)
    have hk : k < rows.length := by omega
    have hm : rows.getD k [] ∈ rows := by
      rw [List.getD_eq_getElem?_getD, List.getElem?_eq_getElem hk]; exact List.getElem_mem hk
    obtain ⟨a, b, c⟩ := hR _ hm
    obtain ⟨i1, i2, i3⟩ := insB_sym h1 h2 a b c
    rw [basK_succ hk]
    refine ⟨insB_bas h1 a b, i2, i3.trans ?_, by rw [i1, reduceTo_succ hk, h4]⟩
    have e : rows.take (k + 1) = rows.take k ++ [rows.getD k []] := by rw [List.take_add_one, List.getElem?_eq_getElem hk, List.getD_eq_getElem?_getD, List.getElem?_eq_getElem hk]; rfl
    rw [e]
    exact same_append h3 (SameSpan.refl _)
/-- Each row of such a basis goes with the symbols. -/
theorem bas_rows {B : List (List Nat)} (h : Sz g s M) (hB : Bas g s B) (hw : Within B.length (fn B) g (symR g M)) : ∀ r ∈ B, r = rowV g s M (r.take g) := fun r hr => by
  have := hB.ok r hr
  obtain ⟨i, hi, e⟩ := List.getElem_of_mem hr
  have hs := hw i hi
  rw [fn, List.getD_eq_getElem?_getD, List.getElem?_eq_getElem hi, Option.getD_some, e] at hs
  exact symR_row h this.1 this.2 hs
/-- As many rows as coefficients: the leads are all places. -/
theorem full_leads {B : List (List Nat)} (hg : B.length = g) {l : Nat → Nat} (hr : Red B.length (fn B) l) (hl : ∀ i, i < B.length → l i < g) : ∀ i, i < g → l i = i := fun i hi => by
  have h1 := hr.lead_le (i := i) (by omega)
  have h2 := hr.lead_top hl (i := i) (by omega)
  omega
/-- .. and what is solved are the symbols. -/
theorem solved {B : List (List Nat)} (h : Sz g s M) (hB : Bas g s B) (hw : Within B.length (fn B) g (symR g M)) (hg : B.length = g) : B.map (List.drop g) = M := by
  obtain ⟨l, hr, hl⟩ := hB.leads
  have hll := full_leads hg hr hl
  refine (show Sz g s (B.map (List.drop g)) from ⟨by rw [List.length_map, hg], fun x hx => by
    obtain ⟨y, hy, rfl⟩ := List.mem_map.1 hx
    have := hB.ok y hy
    exact ⟨by rw [List.length_drop, this.1]; omega, fun z hz => this.2 z (List.mem_of_mem_drop hz)⟩⟩).ext h fun i hi => ?_
  have hiB : i < B.length := by omega
  have hok := hB.ok.at_ hiB
  have hm : B.getD i [] ∈ B := by rw [List.getD_eq_getElem?_getD, List.getElem?_eq_getElem hiB]; exact List.getElem_mem hiB
  have hrow := bas_rows h hB hw _ hm
  have ht : ((B.getD i []).take g).length = g := by rw [List.length_take, hok.1]; omega
  have hta : AllB ((B.getD i []).take g) := hok.2.take g
  have hu : (B.getD i []).take g = vUnit g i := by
    refine vec_inj (ht.trans (tab_length _ _).symm) hta (vUnit_all g i) ?_
    rw [vec_unit hi]
    funext j
    by_cases hj : j < g
    · have e : vec ((B.getD i []).take g) j = fn B i j := by
        show byte (((B.getD i []).take g).getD j 0) = byte ((B.getD i []).getD j 0)
        rw [List.getD_eq_getElem?_getD, List.getElem?_take, if_pos hj, ← List.getD_eq_getElem?_getD]
      rw [e]
      by_cases hji : j = i
      · subst hji
        have := hr.one j hiB
        rw [hll j hj] at this
        rw [this, unitM, if_pos rfl]
      · have := hr.zero j i (by omega) hiB (fun e => hji e.symm)
        rw [hll j hj] at this
        rw [this, unitM, if_neg hji]
    · rw [vec_wide ht j (by omega), unitM, if_neg (by omega)]
  have e2 : (B.map (List.drop g)).getD i [] = payV g s M (vUnit g i) := by
    rw [List.getD_eq_getElem?_getD, List.getElem?_map, List.getElem?_eq_getElem hiB]
    show (B[i]).drop g = _
    have : B.getD i [] = B[i] := by rw [List.getD_eq_getElem?_getD, List.getElem?_eq_getElem hiB]; rfl
    rw [← this, hrow, rowV, hu, List.drop_append_of_le_length (by rw [vUnit, tab_length]; exact Nat.le_refl _), List.drop_of_length_le (by rw [vUnit, tab_length]; exact Nat.le_refl _), List.nil_append]
  rw [fn, e2, payV_eq h (vUnit_all g i), vec_rowN (vUnit_all g i) h, vec_unit hi, unit_mul laws hi]
end
end Go.Proofs.YtcjjhblgejkkeaaGreat
/- One basis of one span; rows told by what they have at the leads; a basis as a reduced matrix. -/
namespace Go.Proofs.YtcjjhblgejkkeaaGreat
open Lin
set_option linter.unusedVariables false
section
variable {g s : Nat} {M B C : List (List Nat)}
/-- A row taken out of those that are left, and put in. -/
theorem one_step {row : List Nat} {left left' : List (List Nat)} (hC : Bas g s C) (hw : Within C.length (fn C) g (symR g M)) (hl : row.length = g + s) (ha : AllB row) (hr : InSpan g (symR g M) (vec row)) (hm : ∀ r, r ∈ left ↔ r = row ∨ r ∈ left') :
    SameSpan (insB g s C row ++ left') (C ++ left) := by
  refine (same_append (insB_sym hC hw hl ha hr).2.2 (SameSpan.refl left')).trans (same_mem fun r => ?_)
  simp only [List.mem_append, List.mem_singleton, hm]
  constructor
  · rintro ((h | h) | h)
    · exact Or.inl h
    · exact Or.inr (Or.inl h)
    · exact Or.inr (Or.inr h)
  · rintro (h | h | h)
    · exact Or.inl (Or.inl h)
    · exact Or.inl (Or.inr h)
    · exact Or.inr h
theorem one_done (hB : Bas g s B) (hC : Bas g s C) {rows : List (List Nat)} (h1 : SameSpan B rows) (h2 : SameSpan C rows) : B = C := red_unique hB.red hC.red (h1.trans h2.symm)
/-- What has nothing left is what the leads tell. -/
theorem by_leads (hB : Bas g s B) {l : Nat → Nat} (hr : Red B.length (fn B) l) {x : Nat → By} (hx : InSpan B.length (fn B) x) : x = comb B.length (fn B) fun i => x (l i) := by
  have h0 := hr.nought laws (v := fun j => x j + comb B.length (fn B) (fun i => x (l i)) j) (InSpan.add laws hx ⟨_, rfl⟩) fun i hi => cleared laws hr x hi
  exact funext fun j => laws.eq_of_add (congrFun h0 j)
theorem vec_vComb {nc k : Nat} {N : List (List Nat)} {c : List Nat} (hN : Sz k nc N) (hc : AllB c) : vec (vComb nc N c k) = comb k (fn N) (vec c) := by
  rw [show vComb nc N c k = rowN c N k nc from tab_congr fun j _ => sumX_congr fun i hi => mul_comm' _ _ ((hN.at_ hi).2.getD j) (hc.getD i), vec_rowN hc hN]
theorem vComb_all {nc k : Nat} {N : List (List Nat)} {c : List Nat} (hN : Sz k nc N) (hc : AllB c) : AllB (vComb nc N c k) := by
  rw [show vComb nc N c k = rowN c N k nc from tab_congr fun j _ => sumX_congr fun i hi => mul_comm' _ _ ((hN.at_ hi).2.getD j) (hc.getD i)]
  exact rowN_all hc
theorem Bas.sz (h : Bas g s B) : Sz B.length (g + s) B := ⟨rfl, h.ok⟩
/-- What is combined is of the span: not new. -/
theorem comb_in (hB : Bas g s B) {c : List Nat} (hc : AllB c) : inB g s B (vComb (g + s) B c B.length) := by
  obtain ⟨l, hr, hlt⟩ := hB.leads
  have hl : (vComb (g + s) B c B.length).length = g + s := tab_length _ _
  have ha := vComb_all hB.sz hc
  have hv := left_vec hB.ok hr hl ha
  have h0 : vec (leftB (g + s) B (vComb (g + s) B c B.length)) = fun _ => 0 := by
    refine hr.nought laws ?_ fun i hi => left_nought hB.ok hr hl ha hi
    rw [hv]
    exact InSpan.add laws ⟨_, vec_vComb hB.sz hc⟩ ⟨_, rfl⟩
  exact vLead_neg fun i _ => (vec_zero_iff (left_all hB.ok ha) i).1 (by rw [h0])
/-- A row of the span is the combination by its own numbers at the leads. -/
theorem form_row (hB : Bas g s B) {row c : List Nat} (hl : row.length = g + s) (ha : AllB row) (hs : InSpan B.length (fn B) (vec row)) (hc : AllB c) (he : ∀ i, i < B.length → c.getD i 0 = row.getD (vLead (g + s) (B.getD i [])).toNat 0) :
    vComb (g + s) B c B.length = row := by
  obtain ⟨l, hr, hlt⟩ := hB.leads
  refine vec_inj ((tab_length _ _).trans hl.symm) (vComb_all hB.sz hc) ha ?_
  rw [vec_vComb hB.sz hc]
  refine Eq.trans ?_ (by_leads hB hr hs).symm
  exact comb_coef fun i hi => by
    have := he i hi
    rw [hB.lead_at hr hi, Int.toNat_natCast] at this
    show byte _ = byte _
    rw [this]
/-- The coefficients of a basis: the reduced matrix of those that were put in. -/
theorem cut_reduced (hB : Bas g s B) {rows : List (List Nat)} (hrows : ∀ r ∈ rows, r.length = g + s ∧ AllB r) (hsp : SameSpan B rows) (h0 : 0 < rows.length) : B.map (List.take g) = reduceN (rows.map (List.take g)) := by
  obtain ⟨l, hr, hlt⟩ := hB.leads
  have hcut : ∀ {N : List (List Nat)}, (∀ r ∈ N, r.length = g + s ∧ AllB r) → RowsOk g (N.map (List.take g)) := fun {N} hN x hx => by
    obtain ⟨y, hy, rfl⟩ := List.mem_map.1 hx
    have := hN y hy
    exact ⟨by rw [List.length_take, this.1]; omega, this.2.take g⟩
  have hfn : ∀ {N : List (List Nat)} (i : Nat), i < N.length → ∀ j, fn (N.map (List.take g)) i j = if j < g then fn N i j else 0 := fun {N} i hi j => by rw [fn, map_getD _ hi, vec_take]; rfl
  have hsz : Sz rows.length g (rows.map (List.take g)) := ⟨by rw [List.length_map], hcut hrows⟩
  have hred := red_of hsz
  refine red_unique ⟨hcut hB.ok, l, ?_⟩ hred.1 (SameSpan.trans ?_ hred.2.symm)
  · rw [List.length_map]
    exact ⟨hr.inc, fun i hi => by rw [hfn i hi, if_pos (hlt i hi)]; exact hr.one i hi, fun i k hi hk hne => by rw [hfn k hk, if_pos (hlt i hi)]; exact hr.zero i k hi hk hne, fun i j hi hj => by
      have := hlt i hi
      rw [hfn i hi, if_pos (by omega)]; exact hr.low i j hi hj⟩
  · rw [SameSpan, List.length_map, List.length_map]
    exact ⟨span_cut hsp.1 hfn hfn, span_cut hsp.2 hfn hfn⟩
/-- What a basis contains: what doesn't heighten the rank. -/
theorem in_rank (hB : Bas g s B) {rows : List (List Nat)} {v : List Nat} (hrows : ∀ r ∈ rows, r.length = g + s ∧ AllB r) (hsp : SameSpan B rows) (h0 : 0 < rows.length) (hl : v.length = g) (ha : AllB v) :
    inB g s B (v ++ List.replicate s 0) ↔ rk (rows.map (List.take g) ++ [v]) = rk (rows.map (List.take g)) := by
  obtain ⟨l, hr, hlt⟩ := hB.leads
  have hwl : (v ++ List.replicate s 0).length = g + s := by rw [List.length_append, hl, List.length_replicate]
  have hwa : AllB (v ++ List.replicate s 0) := ha.append (AllB.zeros s)
  have hcut := cut_reduced hB hrows hsp h0
  have hsz : Sz rows.length g (rows.map (List.take g)) := ⟨by rw [List.length_map], fun x hx => by
    obtain ⟨y, hy, rfl⟩ := List.mem_map.1 hx
    have := hrows y hy
    exact ⟨by rw [List.length_take, this.1]; omega, this.2.take g⟩⟩
  have hsz2 : Sz (rows.length + 1) g (rows.map (List.take g) ++ [v]) := hsz.append (Sz.one hl ha)
  have hfn : ∀ i, i < B.length → ∀ j, fn (B.map (List.take g)) i j = if j < g then fn B i j else 0 := fun i hi j => by rw [fn, map_getD _ hi, vec_take]; rfl
  have hv := left_vec hB.ok hr hwl hwa
  have hrow : ∀ j, j < g → vec (v ++ List.replicate s 0) j = vec v j := fun j hj => by rw [vec_pair hl, pair_left hj]
  -- of the span just if nothing is left among the coefficients
  have key : inB g s B (v ++ List.replicate s 0) ↔ InSpan B.length (fn (B.map (List.take g))) (vec v) := by
    constructor
    · intro h
      refine ⟨fun i => vec (v ++ List.replicate s 0) (l i), funext fun j => ?_⟩
      by_cases hj : j < g
      · have h1 : vec (leftB (g + s) B (v ++ List.replicate s 0)) j = 0 := (vec_zero_iff (left_all hB.ok hwa) j).2 (vLead_none h j hj)
        rw [hv] at h1
        have h2 := laws.eq_of_add h1
        rw [← hrow j hj, h2]
        exact sm_congr fun i hi => by rw [hfn i hi, if_pos hj]
      · rw [vec_wide hl j (by omega)]
        exact (sm_zero laws _ fun i hi => by rw [hfn i hi, if_neg hj, laws.mul_zero]).symm
    · rintro ⟨c, hc⟩
      have hcl : ∀ i, i < B.length → c i = vec (v ++ List.replicate s 0) (l i) := fun i hi => by
        rw [hrow _ (hlt i hi), hc, ← hr.coef laws c hi]
        exact (sm_congr fun k hk => by rw [hfn k hk, if_pos (hlt i hi)]).symm
      refine vLead_neg fun j hj => (vec_zero_iff (left_all hB.ok hwa) j).1 ?_
      rw [hv]
      show vec (v ++ List.replicate s 0) j + comb B.length (fn B) _ j = 0
      rw [hrow j hj, hc]
      have e : comb B.length (fn (B.map (List.take g))) c j = comb B.length (fn B) (fun i => vec (v ++ List.replicate s 0) (l i)) j := sm_congr fun i hi => by rw [hfn i hi, if_pos hj, hcl i hi]
      rw [e, laws.add_self]
  rw [key]
  have hsame : SameSpan (B.map (List.take g)) (rows.map (List.take g)) := by rw [hcut]; exact (red_of hsz).2
  have hkey2 : InSpan B.length (fn (B.map (List.take g))) (vec v) ↔ Makes (rows.map (List.take g)) (vec v) := by
    have h1 := hsame.1
    have h2 := hsame.2
    rw [List.length_map] at h1 h2
    exact ⟨fun h => InSpan.trans laws h (by rw [← List.length_map (f := List.take g) (as := B)] at h1; simpa using h1), fun h => InSpan.trans laws h (by simpa using h2)⟩
  rw [hkey2]
  constructor
  · intro h
    have hs : SameSpan (rows.map (List.take g) ++ [v]) (rows.map (List.take g)) := by
      refine ⟨within_append (Within.refl laws _ _) fun i hi => ?_, within_left⟩
      have hi0 : i = 0 := by simp at hi; exact hi
      subst hi0
      exact h
    exact congrArg List.length (reduce_same hsz2 hsz hs)
  · intro h
    refine Classical.byContradiction fun hn => ?_
    have h1 := rk_has hsz
    have h2 := rk_has hsz2
    have hl' : (rows.map (List.take g)).length = rows.length := by rw [List.length_map]
    have h3 : HasRank (rows.length + 1) (insM rows.length (fn (rows.map (List.take g))) (vec v)) (rk (rows.map (List.take g) ++ [v])) := hasRank_congr laws (fun i hi => by
      have := fn_append_row (rows.map (List.take g)) v i (by rw [hl']; exact hi)
      rwa [hl'] at this) h2
    have := rank_more laws (fun e => hn (by unfold Makes; rw [hl']; exact e)) h1 h3
    omega
end
end Go.Proofs.YtcjjhblgejkkeaaGreat
/- One side of the rows of a basis: what is left of a row, and where a new one stands. -/
namespace Go.Proofs.YtcjjhblgejkkeaaGreat
open Lin
set_option linter.unusedVariables false
theorem getD_take {l : List Nat} {g i : Nat} (h : i < g) : (l.take g).getD i 0 = l.getD i 0 := by
  rw [List.getD_eq_getElem?_getD, List.getD_eq_getElem?_getD, List.getElem?_take, if_pos h]
theorem getD_drop (l : List Nat) (g i : Nat) : (l.drop g).getD i 0 = l.getD (g + i) 0 := by
  rw [List.getD_eq_getElem?_getD, List.getD_eq_getElem?_getD, List.getElem?_drop]
theorem getD_map_side (f : List Nat → List Nat) (h0 : f [] = []) (B : List (List Nat)) (i : Nat) : (B.map f).getD i [] = f (B.getD i []) := by
  rw [List.getD_eq_getElem?_getD, List.getD_eq_getElem?_getD, List.getElem?_map]
  cases B[i]? with
  | none => exact h0.symm
  | some x => rfl
theorem tab_take (g s : Nat) (f : Nat → Nat) : (tab (g + s) f).take g = tab g f := list_ext (by rw [List.length_take, tab_length, tab_length]; omega) fun i hi => by
  rw [List.length_take, tab_length] at hi
  rw [getD_take (by omega), tab_getD, tab_getD, if_pos (by omega), if_pos (by omega)]
theorem tab_drop (g s : Nat) (f : Nat → Nat) : (tab (g + s) f).drop g = tab s fun j => f (g + j) := list_ext (by rw [List.length_drop, tab_length, tab_length]; omega) fun i hi => by
  rw [List.length_drop, tab_length] at hi
  rw [getD_drop, tab_getD, tab_getD, if_pos (by omega), if_pos (by omega)]
/-- A row, and of k rows each as often as its number says, added. -/
def plusN (N : Nat) (x : List Nat) (rows : List (List Nat)) (D : List Nat) (k : Nat) : List Nat := tab N fun j => x.getD j 0 ^^^ vCombAt rows D k j
theorem plusN_len (N : Nat) (x : List Nat) (rows : List (List Nat)) (D : List Nat) (k : Nat) : (plusN N x rows D k).length = N := tab_length _ _
theorem combAt_take (B : List (List Nat)) (D : List Nat) (k : Nat) {g j : Nat} (h : j < g) : vCombAt (B.map (List.take g)) D k j = vCombAt B D k j := sumX_congr fun i _ => by
  rw [getD_map_side (List.take g) (by simp), getD_take h]
theorem combAt_drop (B : List (List Nat)) (D : List Nat) (k g j : Nat) : vCombAt (B.map (List.drop g)) D k j = vCombAt B D k (g + j) := sumX_congr fun i _ => by
  rw [getD_map_side (List.drop g) (by simp), getD_drop]
theorem plusN_take (g s : Nat) (x : List Nat) (B : List (List Nat)) (D : List Nat) (k : Nat) : (plusN (g + s) x B D k).take g = plusN g (x.take g) (B.map (List.take g)) D k := by
  rw [plusN, tab_take]
  exact tab_congr fun j hj => by rw [getD_take hj, combAt_take B D k hj]
theorem plusN_drop (g s : Nat) (x : List Nat) (B : List (List Nat)) (D : List Nat) (k : Nat) : (plusN (g + s) x B D k).drop g = plusN s (x.drop g) (B.map (List.drop g)) D k := by
  rw [plusN, tab_drop]
  exact tab_congr fun j _ => by rw [getD_drop, combAt_drop]
theorem plusN_zero (N : Nat) (x : List Nat) (rows : List (List Nat)) (D : List Nat) (h : x.length = N) : plusN N x rows D 0 = x := by
  subst h
  refine Eq.trans (tab_congr fun j _ => ?_) (tab_self x)
  exact Nat.xor_zero _
theorem vComb_plusN (N : Nat) (B : List (List Nat)) (D : List Nat) (k : Nat) : plusN N (List.replicate N 0) B D k = vComb N B D k := tab_congr fun j hj => by
  rw [List.getD_eq_getElem?_getD, List.getElem?_replicate, if_pos hj]; exact Nat.zero_xor _
theorem vAddS_take (g s : Nat) (m u : List Nat) (c : Nat) : (vAddS (g + s) m u c).take g = vAddS g (m.take g) (u.take g) c := by
  rw [vAddS, tab_take]; exact tab_congr fun j hj => by rw [getD_take hj, getD_take hj]
theorem vAddS_drop (g s : Nat) (m u : List Nat) (c : Nat) : (vAddS (g + s) m u c).drop g = vAddS s (m.drop g) (u.drop g) c := by
  rw [vAddS, tab_drop]; exact tab_congr fun j _ => by rw [getD_drop, getD_drop]
theorem vScale_take (g s : Nat) (m : List Nat) (c : Nat) : (vScale (g + s) m c).take g = vScale g (m.take g) c := by
  rw [vScale, tab_take]; exact tab_congr fun j hj => by rw [getD_take hj]
theorem vScale_drop (g s : Nat) (m : List Nat) (c : Nat) : (vScale (g + s) m c).drop g = vScale s (m.drop g) c := by
  rw [vScale, tab_drop]; exact tab_congr fun j _ => by rw [getD_drop]
theorem vAddS_none {n : Nat} {m : List Nat} (u : List Nat) (h : m.length = n) (hu : AllB u) : vAddS n m u 0 = m := by
  subst h
  refine Eq.trans (tab_congr fun j _ => ?_) (tab_self m)
  rw [mul_comm' _ 0 (hu.getD j) (by decide), mul_zero_left, Nat.xor_zero]
section
variable {g s : Nat} {B : List (List Nat)} {row : List Nat}
/-- What is left of a row. -/
theorem leftB_eq {l : Nat → Nat} (h : Bas g s B) (hr : Red B.length (fn B) l) (hl : row.length = g + s) (ha : AllB row) : leftB (g + s) B row = plusN (g + s) row B (tab B.length fun i => row.getD (l i) 0) B.length := by
  have hD : AllB (tab B.length fun i => row.getD (l i) 0) := fun x hx => by
    obtain ⟨i, _, rfl⟩ := List.mem_map.1 hx
    exact ha.getD _
  have hv := vec_vComb h.sz hD
  have hva := vComb_all h.sz hD
  have hpa : AllB (plusN (g + s) row B (tab B.length fun i => row.getD (l i) 0) B.length) := fun x hx => by
    obtain ⟨j, hj, rfl⟩ := List.mem_map.1 hx
    have := hva.getD j
    rw [vComb, tab_getD, if_pos (List.mem_range.1 hj)] at this
    exact xor_lt (ha.getD _) this
  refine vec_inj (by rw [left_len hl, plusN_len]) (left_all h.ok ha) hpa ?_
  rw [left_vec h.ok hr hl ha]
  funext j
  apply By.ext
  rw [vec_v hpa, add_v, vec_v ha, plusN, tab_getD]
  have e : (comb B.length (fn B) (fun i => vec row (l i)) j).v = (vComb (g + s) B (tab B.length fun i => row.getD (l i) 0) B.length).getD j 0 := by
    rw [← vec_v hva, hv]
    congr 1
    exact sm_congr fun i hi => by
      show vec row (l i) * _ = vec (tab B.length fun i => row.getD (l i) 0) i * _
      congr 1
      show byte _ = byte _
      rw [tab_getD, if_pos hi]
  rw [e, vComb, tab_getD]
  by_cases hj : j < g + s
  · rw [if_pos hj, if_pos hj]
  · rw [if_neg hj, if_neg hj, List.getD_eq_getElem?_getD, List.getElem?_eq_none (by omega)]; rfl
theorem lead_col {l : Nat → Nat} (h : Bas g s B) (hr : Red B.length (fn B) l) {i : Nat} (hi : i < B.length) (hlg : l i < g) : vLead g ((B.getD i []).take g) = (l i : Int) := by
  have hw := h.ok.at_ hi
  have h1 : (B.getD i []).getD (l i) 0 = 1 := by
    have := congrArg By.v (hr.one i hi)
    rwa [show (fn B i (l i)).v = (B.getD i []).getD (l i) 0 from vec_v hw.2 _] at this
  have h0 : ∀ j, j < l i → (B.getD i []).getD j 0 = 0 := fun j hj => by
    have := congrArg By.v (hr.low i j hi hj)
    rwa [show (fn B i j).v = (B.getD i []).getD j 0 from vec_v hw.2 _] at this
  exact vLead_at hlg (by rw [getD_take hlg, h1]; decide) fun j hj => by rw [getD_take (by omega), h0 j hj]
/-- Where a new row stands. -/
theorem insB_at {L q : Nat} (h : Bas g s B) (hl : row.length = g + s) (ha : AllB row) (hL : vLead g (leftB (g + s) B row) = (L : Int)) (hq : q ≤ B.length)
    (hlo : ∀ i, i < q → ∃ j, j < L ∧ (B.getD i []).getD j 0 ≠ 0) (hhi : q < B.length → ∀ j, j < L → (B.getD q []).getD j 0 = 0) :
    insB g s B row = (clearedL (g + s) B (vScale (g + s) (leftB (g + s) B row) (invN ((leftB (g + s) B row).getD L 0))) L).take q ++ [vScale (g + s) (leftB (g + s) B row) (invN ((leftB (g + s) B row).getD L 0))] ++ (clearedL (g + s) B (vScale (g + s) (leftB (g + s) B row) (invN ((leftB (g + s) B row).getD L 0))) L).drop q := by
  have hneg : ¬ vLead g (leftB (g + s) B row) < 0 := by rw [hL]; omega
  have hL2 : vLead (g + s) (leftB (g + s) B row) = (L : Int) := (vLead_less (by omega) hneg).trans hL
  obtain ⟨l, hr, hlg⟩ := h.leads
  have hLt : L < g ∧ (leftB (g + s) B row).getD L 0 ≠ 0 := by
    obtain ⟨L', h1, h2⟩ := vLead_some hneg
    rw [hL] at h2
    obtain rfl : L = L' := by omega
    obtain ⟨a, b, _⟩ := (vLeadTo_some _ g L).1 h1
    exact ⟨a, b⟩
  have cell : ∀ i, i < B.length → ∀ j, (fn B i j).v = (B.getD i []).getD j 0 := fun i hi j => vec_v (h.ok.at_ hi).2 _
  have lo2 : ∀ i, i < q → ¬ (L : Int) < vLead (g + s) (B.getD i []) := fun i hi => by
    rw [h.lead_at hr (show i < B.length by omega)]
    obtain ⟨j, hj, h0⟩ := hlo i hi
    intro hlt
    refine h0 ?_
    rw [← cell i (by omega), hr.low i j (by omega) (by omega)]; rfl
  have hi2 : q < B.length → (L : Int) < vLead (g + s) (B.getD q []) := fun hq2 => by
    rw [h.lead_at hr hq2]
    rcases Nat.lt_trichotomy L (l q) with e | e | e
    · omega
    · exfalso
      have := left_nought h.ok hr hl ha hq2
      rw [← e] at this
      exact hLt.2 ((vec_zero_iff (left_all h.ok ha) L).1 this)
    · exfalso
      have h1 := hhi hq2 (l q) e
      rw [← cell q hq2, hr.one q hq2] at h1
      exact absurd h1 (by decide)
  have hn : ¬ inB g s B row := hneg
  rw [insB_new hn]
  obtain ⟨v, hv⟩ : ∃ v, leftB (g + s) B row = v := ⟨_, rfl⟩
  have hv' : clearTo (g + s) B row B.length = v := hv
  rw [hv] at hL2 hLt ⊢
  have hcl : ∀ u : List Nat, (clearedL (g + s) B u L).length = B.length := fun u => by simp [clearedL]
  rw [insertN]
  simp only [hv', hL2, Int.toNat_natCast]
  rw [if_neg (show ¬ (L : Int) < 0 by omega)]
  have hlay := layTo_eq (u := vScale (g + s) v (invN (v.getD L 0))) hq lo2 hi2 B.length (Nat.le_refl _)
  rw [hlay]
  by_cases hc : B.length ≤ q
  · obtain rfl : q = B.length := by omega
    rw [if_pos (Nat.le_refl _)]
    simp only [if_neg (show ¬ (false = true) by decide)]
    rw [List.drop_of_length_le (by rw [hcl]; omega), List.append_nil]
  · rw [if_neg hc]
    simp only [if_pos]
    rw [List.take_of_length_le (l := clearedL (g + s) B _ L) (i := B.length) (by rw [hcl]; omega)]
end
end Go.Proofs.YtcjjhblgejkkeaaGreat
