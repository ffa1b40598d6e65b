/- Spans, plainly: what each call of layer 8 answers. -/
import Derived.Test.YtcjjhblgejkkeaaGreatMat
import Derived.Test.YtcjjhblgejkkeaaGreatLinS
namespace Go.Proofs.YtcjjhblgejkkeaaGreat
open Lin
set_option linter.unusedVariables false
/-- Whether a's span holds each row of b: the rank doesn't grow. -/
def conB (A B : List (List Nat)) : Bool := decide (rk (A ++ B) = rk A)
def conV (A B : List (List Nat)) : Bool := if fits (A ++ B) then conB A B else false
theorem Lin.RowsOk.left {n : Nat} {A B : List (List Nat)} (h : RowsOk n (A ++ B)) : RowsOk n A := fun r hr => h r (List.mem_append.2 (Or.inl hr))
theorem Lin.RowsOk.right {n : Nat} {A B : List (List Nat)} (h : RowsOk n (A ++ B)) : RowsOk n B := fun r hr => h r (List.mem_append.2 (Or.inr hr))
theorem Lin.RowsOk.both {n : Nat} {A B : List (List Nat)} (h : RowsOk n A) (k : RowsOk n B) : RowsOk n (A ++ B) := fun r hr => by
  rcases List.mem_append.1 hr with e | e
  · exact h r e
  · exact k r e
theorem Lin.RowsOk.sz {n : Nat} {A : List (List Nat)} (h : RowsOk n A) : Sz A.length n A := ⟨rfl, h⟩
theorem Lin.RowsOk.red {n : Nat} {A : List (List Nat)} (h : RowsOk n A) : RedL n (reduceN A) ∧ SameSpan (reduceN A) A := red_of h.sz
theorem con_iff {n : Nat} {A B : List (List Nat)} (hA : RowsOk n A) (hB : RowsOk n B) : conB A B = true ↔ Within B.length (fn B) A.length (fn A) := by
  rw [conB, decide_eq_true_iff]
  exact contains_iff hA.red.1 hA.red.2 (hA.both hB).red.1 (hA.both hB).red.2
theorem con_one {n : Nat} {A : List (List Nat)} {v : List Nat} (hA : RowsOk n A) (hv : RowsOk n [v]) : conB A [v] = true ↔ Makes A (vec v) := by
  rw [conB, decide_eq_true_iff]
  exact has_iff hA.red.1 hA.red.2 (hA.both hv).red.1 (hA.both hv).red.2
theorem Lin.RowsOk.one {n : Nat} {A : List (List Nat)} (hA : RowsOk n A) {v : List Nat} (h : v ∈ A) : RowsOk n [v] := fun r hr => by
  rw [List.mem_singleton.1 hr]; exact hA v h
theorem con_all {n : Nat} {A B : List (List Nat)} (hA : RowsOk n A) (hB : RowsOk n B) : conB A B = B.all fun v => conB A [v] := by
  rw [Bool.eq_iff_iff, con_iff hA hB, List.all_eq_true]
  constructor
  · intro h v hv
    obtain ⟨i, hi, e⟩ := List.getElem_of_mem hv
    refine (con_one hA (hB.one hv)).2 ?_
    have := h i hi
    rw [← e]
    have e2 : fn B i = vec B[i] := by show vec (B.getD i []) = _; rw [List.getD, List.getElem?_eq_getElem hi]; rfl
    rwa [e2] at this
  · intro h i hi
    have e2 : fn B i = vec B[i] := by show vec (B.getD i []) = _; rw [List.getD, List.getElem?_eq_getElem hi]; rfl
    rw [e2]
    exact (con_one hA (hB.one (List.getElem_mem hi))).1 (h _ (List.getElem_mem hi))
/-- A row that is cleared by a reduced matrix: by its own numbers at the leads. -/
theorem cleared_iff {n : Nat} {A : List (List Nat)} {l : Nat → Nat} {v : List Nat} (hA : RowsOk n A) (hv : RowsOk n [v]) (hl : Red (reduceN A).length (fn (reduceN A)) l) :
    conB A [v] = true ↔ (fun j => vec v j + comb (reduceN A).length (fn (reduceN A)) (fun i => vec v (l i)) j) = fun _ => 0 := by
  rw [con_one hA hv, ← same_makes hA.red.2, ← clearSeq_eq laws hl (vec v) (Nat.le_refl _)]
  exact clearSeq_span laws hl (vec v)
/-- Two lists of rows, side by side. -/
def sideN (A B : List (List Nat)) : List (List Nat) := List.zipWith (· ++ ·) A B
def zeroN (B : List (List Nat)) : List (List Nat) := B.map fun r => List.replicate r.length 0
def zassN (A B : List (List Nat)) : List (List Nat) := sideN A A ++ sideN B (zeroN B)
/-- What lies in the spans of both. -/
def meetN (A B : List (List Nat)) : List (List Nat) := ((reduceN (zassN A B)).filter fun r => !decide (vLead r.length r < (sizeC (A ++ B) : Int))).map (List.drop (sizeC (A ++ B)))
def meetV (A B : List (List Nat)) : List (List Nat) := if fits (A ++ B) then meetN A B else []
theorem vec_append {n : Nat} {xs ys : List Nat} (h : xs.length = n) : vec (xs ++ ys) = pairV n (vec xs) (vec ys) := funext fun j => by
  rcases Nat.lt_or_ge j n with hj | hj
  · rw [pair_left hj]
    show byte ((xs ++ ys).getD j 0) = byte (xs.getD j 0)
    rw [List.getD_eq_getElem?_getD, List.getElem?_append_left (by omega), ← List.getD_eq_getElem?_getD]
  · obtain ⟨i, rfl⟩ : ∃ i, j = n + i := ⟨j - n, by omega⟩
    rw [pair_right]
    show byte ((xs ++ ys).getD (n + i) 0) = byte (ys.getD i 0)
    rw [List.getD_eq_getElem?_getD, List.getElem?_append_right (by omega), show n + i - xs.length = i by omega, ← List.getD_eq_getElem?_getD]
theorem vec_zeros (n : Nat) : vec (List.replicate n 0) = fun _ => 0 := funext fun j => by
  show byte ((List.replicate n 0).getD j 0) = 0
  have : (List.replicate n 0).getD j 0 = 0 := by
    rw [List.getD_eq_getElem?_getD, List.getElem?_replicate]
    split <;> rfl
  rw [this]; rfl
theorem zero_len (B : List (List Nat)) : (zeroN B).length = B.length := by simp [zeroN]
theorem zero_ok {n : Nat} {B : List (List Nat)} (h : RowsOk n B) : RowsOk n (zeroN B) := fun r hr => by
  obtain ⟨x, hx, rfl⟩ := List.mem_map.1 hr
  exact ⟨by rw [List.length_replicate, (h x hx).1], AllB.zeros _⟩
theorem side_len {A B : List (List Nat)} (h : A.length = B.length) : (sideN A B).length = A.length := by simp [sideN, h]
theorem side_ok {n m : Nat} {A B : List (List Nat)} (hA : RowsOk n A) (hB : RowsOk m B) : RowsOk (n + m) (sideN A B) := fun r hr => by
  obtain ⟨i, hi, e⟩ := List.getElem_of_mem hr
  rw [sideN, List.length_zipWith] at hi
  rw [← e]
  simp only [sideN, List.getElem_zipWith]
  have h1 := hA A[i] (List.getElem_mem (by omega))
  have h2 := hB B[i] (List.getElem_mem (by omega))
  exact ⟨by rw [List.length_append, h1.1, h2.1], h1.2.append h2.2⟩
theorem fn_at {A : List (List Nat)} {i : Nat} (hi : i < A.length) : fn A i = vec A[i] := by show vec (A.getD i []) = _; rw [List.getD, List.getElem?_eq_getElem hi]; rfl
theorem fn_side {n : Nat} {A B : List (List Nat)} (hA : RowsOk n A) (h : A.length = B.length) {i : Nat} (hi : i < A.length) : fn (sideN A B) i = pairV n (fn A i) (fn B i) := by
  rw [fn_at (by rw [side_len h]; exact hi), fn_at hi, fn_at (h ▸ hi)]
  simp only [sideN, List.getElem_zipWith]
  exact vec_append (hA _ (List.getElem_mem hi)).1
theorem fn_zero {n : Nat} {B : List (List Nat)} (hB : RowsOk n B) {i : Nat} (hi : i < B.length) : fn (zeroN B) i = fun _ => 0 := by
  rw [fn_at (by rw [zero_len]; exact hi)]
  simp only [zeroN, List.getElem_map]
  exact vec_zeros _
theorem zass_ok {n : Nat} {A B : List (List Nat)} (hA : RowsOk n A) (hB : RowsOk n B) : RowsOk (n + n) (zassN A B) := (side_ok hA hA).both (side_ok hB (zero_ok hB))
theorem zass_len (A B : List (List Nat)) : (zassN A B).length = A.length + B.length := by rw [zassN, List.length_append, side_len rfl, side_len (zero_len B).symm]
theorem fn_zass {n : Nat} {A B : List (List Nat)} (hA : RowsOk n A) (hB : RowsOk n B) : ∀ i, i < A.length + B.length → fn (zassN A B) i = sideM A.length n (fn A) (fn B) i := fun i hi => by
  have hl := side_len (A := A) (B := A) rfl
  rw [zassN, fn_append _ _ i (by rw [← zassN, zass_len]; exact hi), hl]
  unfold sideM catM
  split
  · next h => exact fn_side hA rfl h
  · next h =>
    have h2 : i - A.length < B.length := by omega
    rw [fn_side hB (zero_len B).symm h2, fn_zero hB h2]
theorem makes_zass {n : Nat} {A B : List (List Nat)} (hA : RowsOk n A) (hB : RowsOk n B) {v : Nat → By} : Makes (zassN A B) v ↔ ∃ a b, Makes A a ∧ Makes B b ∧ v = pairV n (fun j => a j + b j) a := by
  show InSpan (zassN A B).length _ _ ↔ ∃ a b, InSpan A.length (fn A) a ∧ InSpan B.length (fn B) b ∧ v = pairV n (fun j => a j + b j) a
  rw [zass_len, ← span_side laws]
  exact ⟨fun h => InSpan.trans laws h (within_congr laws (fn_zass hA hB)), fun h => InSpan.trans laws h (within_congr laws fun i hi => (fn_zass hA hB i hi).symm)⟩
/-- The leads below a number are the first ones. -/
theorem leads_cut {l : Nat → Nat} (c : Nat) : ∀ r, (∀ i j, i < j → j < r → l i < l j) → ∃ s, s ≤ r ∧ (∀ i, i < s → l i < c) ∧ ∀ i, s ≤ i → i < r → c ≤ l i
  | 0, _ => ⟨0, Nat.le_refl _, fun i hi => by omega, fun i _ hi => by omega⟩
  | r + 1, h => by
    obtain ⟨s, h1, h2, h3⟩ := leads_cut c r fun i j hij hj => h i j hij (by omega)
    by_cases e : s = r
    · subst e
      by_cases hl : l s < c
      · exact ⟨s + 1, Nat.le_refl _, fun i hi => by
          rcases Nat.lt_or_ge i s with k | k
          · exact h2 i k
          · obtain rfl : i = s := by omega
            exact hl, fun i hi hi2 => by omega⟩
      · exact ⟨s, by omega, h2, fun i hi hi2 => by
          obtain rfl : i = s := by omega
          omega⟩
    · refine ⟨s, by omega, h2, fun i hi hi2 => ?_⟩
      rcases Nat.lt_or_ge i r with k | k
      · exact h3 i hi k
      · obtain rfl : i = r := by omega
        have h4 := h3 s (Nat.le_refl _) (by omega)
        have h5 := h s i (by omega) (by omega)
        omega
theorem filter_drop {α : Type} (p : α → Bool) : ∀ (l : List α) (s : Nat), (∀ i x, i < s → l[i]? = some x → p x = false) → (∀ i x, s ≤ i → l[i]? = some x → p x = true) → l.filter p = l.drop s
  | [], _, _, _ => by simp
  | x :: l, 0, _, h2 => by
    have hx := h2 0 x (Nat.le_refl _) rfl
    have := filter_drop p l 0 (fun i y hi _ => by omega) fun i y _ hy => h2 (i + 1) y (by omega) hy
    rw [List.filter_cons_of_pos hx, this]; rfl
  | x :: l, s + 1, h1, h2 => by
    have hx := h1 0 x (by omega) rfl
    have := filter_drop p l s (fun i y hi hy => h1 (i + 1) y (by omega) hy) fun i y hi hy => h2 (i + 1) y (by omega) hy
    rw [List.filter_cons_of_neg (by rw [hx]; decide), this]; rfl
/-- Of a reduced matrix of twice so many columns: the rows whose leads lie in the right half, their right halves. -/
theorem right_half {n : Nat} {R : List (List Nat)} (h : RedL (n + n) R) (v : Nat → By) (hv : Wide n v) :
    RedL n ((R.filter fun r => !decide (vLead r.length r < (n : Int))).map (List.drop n)) ∧ (Makes ((R.filter fun r => !decide (vLead r.length r < (n : Int))).map (List.drop n)) v ↔ Makes R (pairV n (fun _ => 0) v)) := by
  obtain ⟨hok, l, hl⟩ := h
  obtain ⟨s, hs, hlo, hhi⟩ := leads_cut n R.length hl.inc
  have hld : ∀ i x, R[i]? = some x → vLead x.length x = (l i : Int) ∧ i < R.length := fun i x hx => by
    have hi : i < R.length := by
      rcases Nat.lt_or_ge i R.length with e | e
      · exact e
      · rw [List.getElem?_eq_none e] at hx; cases hx
    have e : R.getD i [] = x := by rw [List.getD, hx]; rfl
    have := (red_lead hok hl hi).1
    rw [e] at this
    rw [(hok x (List.mem_of_getElem? hx)).1]
    exact ⟨this, hi⟩
  have hf : (R.filter fun r => !decide (vLead r.length r < (n : Int))) = R.drop s := filter_drop _ R s
    (fun i x hi hx => by rw [(hld i x hx).1]; have := hlo i hi; simpa using this)
    (fun i x hi hx => by rw [(hld i x hx).1]; have := hhi i hi (hld i x hx).2; simpa using this)
  rw [hf]
  have hlen : ((R.drop s).map (List.drop n)).length = R.length - s := by simp
  have hfn : ∀ i, i < R.length - s → fn ((R.drop s).map (List.drop n)) i = fun j => fn R (s + i) (n + j) := fun i hi => by
    rw [fn_at (by rw [hlen]; exact hi), fn_at (by omega)]
    funext j
    show byte ((((R.drop s).map (List.drop n))[i]).getD j 0) = byte ((R[s + i]).getD (n + j) 0)
    simp [List.getD_eq_getElem?_getD, List.getElem?_drop]
  have hzero : ∀ i j, s ≤ i → i < R.length → j < n → fn R i j = 0 := fun i j hi hi2 hj => hl.low i j hi2 (by have := hhi i hi hi2; omega)
  have hpair : ∀ i, i < R.length - s → fn R (s + i) = pairV n (fun _ => 0) (fn ((R.drop s).map (List.drop n)) i) := fun i hi => by
    rw [hfn i hi]
    funext j
    rcases Nat.lt_or_ge j n with hj | hj
    · rw [pair_left hj]; exact hzero _ _ (by omega) (by omega) hj
    · obtain ⟨k, rfl⟩ : ∃ k, j = n + k := ⟨j - n, by omega⟩
      rw [pair_right]
  refine ⟨⟨fun x hx => ?_, fun i => l (s + i) - n, ?_⟩, ?_⟩
  · obtain ⟨y, hy, rfl⟩ := List.mem_map.1 hx
    have := hok y (List.mem_of_mem_drop hy)
    exact ⟨by rw [List.length_drop, this.1]; omega, fun z hz => this.2 z (List.mem_of_mem_drop hz)⟩
  · rw [hlen]
    refine ⟨fun i j hij hj => ?_, fun i hi => ?_, fun i k hi hk hne => ?_, fun i j hi hj => ?_⟩
    · have h1 := hl.inc (s + i) (s + j) (by omega) (by omega)
      have h2 := hhi (s + i) (by omega) (by omega)
      show l (s + i) - n < l (s + j) - n
      omega
    · have h2 := hhi (s + i) (by omega) (by omega)
      rw [hfn i hi]
      show fn R (s + i) (n + (l (s + i) - n)) = 1
      rw [show n + (l (s + i) - n) = l (s + i) by omega]
      exact hl.one _ (by omega)
    · have h2 := hhi (s + i) (by omega) (by omega)
      rw [hfn k hk]
      show fn R (s + k) (n + (l (s + i) - n)) = 0
      rw [show n + (l (s + i) - n) = l (s + i) by omega]
      exact hl.zero _ _ (by omega) (by omega) (by omega)
    · have hj : j < l (s + i) - n := hj
      rw [hfn i hi]
      exact hl.low _ _ (by omega) (by omega)
  · constructor
    · rintro ⟨d, rfl⟩
      rw [hlen]
      have e : pairV n (fun _ => 0) (comb (R.length - s) (fn ((R.drop s).map (List.drop n))) d) = comb (R.length - s) (fun i => fn R (s + i)) d := by
        rw [comb_congr d hpair, comb_pair, comb_none laws]
      rw [e]
      exact InSpan.trans laws ⟨d, rfl⟩ fun i hi => InSpan.row laws _ (show s + i < R.length by omega)
    · rintro ⟨d, hd⟩
      have h0 : ∀ i, i < s → d i = 0 := fun i hi => by
        rw [← hl.coef laws d (show i < R.length by omega), ← hd, pair_left (hlo i hi)]
      refine ⟨fun i => d (s + i), ?_⟩
      rw [hlen]
      funext j
      have e := congrFun hd (n + j)
      rw [pair_right] at e
      rw [e]
      show sm R.length (fun i => d i * fn R i (n + j)) = sm (R.length - s) _
      have hsum : R.length = s + (R.length - s) := by omega
      rw [hsum, sm_split laws, sm_zero laws s fun i hi => by rw [h0 i hi, laws.zero_mul], laws.zero_add, show s + (R.length - s) - s = R.length - s by omega]
      exact sm_congr fun i hi => by rw [hfn i hi]
theorem sizeC_ok {n : Nat} {M : List (List Nat)} (h : RowsOk n M) (h0 : M ≠ []) : sizeC M = n := h.sz.sizeC (by
  cases M with
  | nil => exact absurd rfl h0
  | cons a l => simp)
theorem meet_none (c : Nat) : (reduceN (zassN [] [])).filter (fun r => !decide (vLead r.length r < (c : Int))) = [] := by
  have e : reduceN (zassN [] []) = [] := List.eq_nil_of_length_eq_zero (by have := redL_length (RowsOk.red (n := 0) (A := []) fun r hr => by simp at hr).1; exact Nat.le_zero.1 this)
  rw [e]; rfl
theorem meet_red {n : Nat} {A B : List (List Nat)} (hA : RowsOk n A) (hB : RowsOk n B) : RedL n (meetN A B) ∧ ∀ v, Wide n v → (Makes (meetN A B) v ↔ Makes A v ∧ Makes B v) := by
  by_cases h0 : A ++ B = []
  · obtain ⟨rfl, rfl⟩ := List.append_eq_nil_iff.1 h0
    have e : meetN [] [] = [] := by rw [meetN, meet_none]; rfl
    rw [e]
    exact ⟨redL_nil n, fun v _ => ⟨fun h => ⟨h, h⟩, fun h => h.1⟩⟩
  · have hc : sizeC (A ++ B) = n := sizeC_ok (hA.both hB) h0
    have hz := (zass_ok hA hB).red
    have key : ∀ v, Wide n v → (Makes (meetN A B) v ↔ Makes A v ∧ Makes B v) := fun v hv => by
      rw [meetN, hc, (right_half hz.1 v hv).2, same_makes hz.2, makes_zass hA hB]
      constructor
      · rintro ⟨a, b, ha, hb, e⟩
        have wa := makes_wide hA ha
        have wb := makes_wide hB hb
        obtain ⟨e1, rfl⟩ := pair_inj (fun j _ => rfl) (fun j hj => by show a j + b j = 0; rw [wa j hj, wb j hj, laws.zero_add]) e
        have : v = b := funext fun j => laws.eq_of_add (congrFun e1 j).symm
        subst this
        exact ⟨ha, hb⟩
      · rintro ⟨ha, hb⟩
        refine ⟨v, v, ha, hb, ?_⟩
        congr 1
        exact funext fun j => (laws.add_self _).symm
    refine ⟨?_, key⟩
    rw [meetN, hc]
    exact (right_half hz.1 (fun _ => 0) fun _ _ => rfl).1
end Go.Proofs.YtcjjhblgejkkeaaGreat
