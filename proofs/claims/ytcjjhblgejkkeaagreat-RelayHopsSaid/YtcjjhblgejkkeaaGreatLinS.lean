/- What is square to all that is square to the rows of a reduced matrix lies in their span. -/
import Derived.Test.YtcjjhblgejkkeaaGreatLin
namespace Go.Proofs.YtcjjhblgejkkeaaGreat.Lin
section
variable {B : Type} [Add B] [Mul B] [Zero B] [One B]
/-- The sum of the products of two rows' numbers. -/
def dot (n : Nat) (u v : Nat → B) : B := sm n fun j => u j * v j
theorem dot_comm (K : Laws B) (n : Nat) (u v : Nat → B) : dot n u v = dot n v u := sm_congr fun _ _ => K.mul_comm _ _
theorem dot_comb (K : Laws B) (n r : Nat) (R : Nat → Nat → B) (c v : Nat → B) : dot n (comb r R c) v = sm r fun i => c i * dot n (R i) v := by
  unfold dot comb
  have h1 : ∀ j, j < n → (sm r fun i => c i * R i j) * v j = sm r fun i => c i * (R i j * v j) := fun j _ => by
    rw [K.mul_comm, ← sm_mul K]
    exact sm_congr fun i _ => by rw [K.mul_comm, K.mul_assoc]
  rw [sm_congr h1, sm_swap K]
  exact sm_congr fun i _ => sm_mul K n _ _
theorem dot_add (K : Laws B) (n : Nat) (u v w : Nat → B) : dot n (fun j => u j + v j) w = dot n u w + dot n v w := by
  unfold dot
  rw [← sm_add K]
  exact sm_congr fun j _ => K.add_mul _ _ _
/-- v is square to each row. -/
def Perp (n r : Nat) (M : Nat → Nat → B) (v : Nat → B) : Prop := ∀ i, i < r → dot n (M i) v = 0
theorem Perp.span (K : Laws B) {n r : Nat} {M : Nat → Nat → B} {u v : Nat → B} (h : Perp n r M v) (hu : InSpan r M u) : dot n u v = 0 := by
  obtain ⟨c, rfl⟩ := hu
  rw [dot_comb K]
  exact sm_zero K r fun i hi => by rw [h i hi, K.mul_zero]
theorem Perp.within (K : Laws B) {n r s : Nat} {M N : Nat → Nat → B} {v : Nat → B} (h : Perp n r M v) (hw : Within s N r M) : Perp n s N v := fun i hi => h.span K (hw i hi)
/-- The row that is square to a reduced matrix, for a column k without a lead. -/
def sqV (r : Nat) (R : Nat → Nat → B) (l : Nat → Nat) (k : Nat) : Nat → B := fun j => (if j = k then 1 else 0) + sm r fun i => if l i = j then R i k else 0
theorem dot_sq (K : Laws B) {n r k : Nat} (R : Nat → Nat → B) {l : Nat → Nat} (u : Nat → B) (hk : k < n) (hl : ∀ i, i < r → l i < n) :
    dot n u (sqV r R l k) = u k + sm r fun i => R i k * u (l i) := by
  unfold dot sqV
  have h1 : ∀ j, j < n → u j * ((if j = k then 1 else 0) + sm r fun i => if l i = j then R i k else 0) = (u j * (if j = k then 1 else 0)) + sm r fun i => u j * (if l i = j then R i k else 0) := fun j _ => by
    rw [K.mul_add, sm_mul K]
  rw [sm_congr h1, sm_add K, sm_one K hk (fun i _ hne => by rw [if_neg hne, K.mul_zero]), if_pos rfl, K.mul_one, sm_swap K]
  congr 1
  exact sm_congr fun i hi => by
    rw [sm_one K (hl i hi) (fun j _ hne => by rw [if_neg (Ne.symm hne), K.mul_zero]), if_pos rfl, K.mul_comm]
theorem sq_perp (K : Laws B) {n r k : Nat} {R : Nat → Nat → B} {l : Nat → Nat} (h : Red r R l) (hk : k < n) (hl : ∀ i, i < r → l i < n) : Perp n r R (sqV r R l k) := fun i hi => by
  rw [dot_sq K R (R i) hk hl, sm_one K hi (fun j hj hne => by rw [h.zero j i hj hi (Ne.symm hne), K.mul_zero]), h.one i hi, K.mul_one, K.add_self]
/-- What vanishes at the leads and is square to all those rows is nought. -/
theorem perp_perp (K : Laws B) {n r : Nat} {R : Nat → Nat → B} {l : Nat → Nat} {w : Nat → B} (h : Red r R l) (hl : ∀ i, i < r → l i < n) (hR : ∀ i, i < r → Wide n (R i)) (hw : Wide n w)
    (hp : ∀ k, k < n → (∀ i, i < r → l i ≠ k) → dot n w (sqV r R l k) = 0) : InSpan r R w := by
  refine ⟨fun i => w (l i), funext fun j => ?_⟩
  refine K.eq_of_add ?_
  have hlead : ∀ i, i < r → w (l i) + comb r R (fun k => w (l k)) (l i) = 0 := fun i hi => cleared K h w hi
  have hc : InSpan r R (comb r R fun k => w (l k)) := ⟨_, rfl⟩
  by_cases hj : j < n
  · by_cases hx : ∃ i, i < r ∧ l i = j
    · obtain ⟨i, hi, rfl⟩ := hx
      exact hlead i hi
    · have h1 := hp j hj fun i hi e => hx ⟨i, hi, e⟩
      have h2 := (sq_perp K h hj hl).span K hc
      have h3 := dot_add K n w (comb r R fun k => w (l k)) (sqV r R l j)
      rw [h1, h2, K.add_zero, dot_sq K R _ hj hl, sm_zero K r (fun i hi => by rw [hlead i hi, K.mul_zero]), K.add_zero] at h3
      exact h3
  · rw [hw j (by omega), hc.wide K hR j (by omega), K.add_zero]
/-- Those rows, a row of noughts for each column with a lead. -/
def sqM (r : Nat) (R : Nat → Nat → B) (l : Nat → Nat) (k : Nat) : Nat → B := fun j => if (List.range r).any (fun i => l i == k) then 0 else sqV r R l k j
theorem lead_any {r k : Nat} {l : Nat → Nat} : (List.range r).any (fun i => l i == k) = true ↔ ∃ i, i < r ∧ l i = k := by
  simp [List.any_eq_true]
theorem Red.inj {B : Type} [Zero B] [One B] {r : Nat} {R : Nat → Nat → B} {l : Nat → Nat} (h : Red r R l) {i k : Nat} (hi : i < r) (hk : k < r) (e : l i = l k) : i = k := by
  rcases Nat.lt_trichotomy i k with x | x | x
  · have := h.inc i k x hk; omega
  · exact x
  · have := h.inc k i x hi; omega
/-- What is square to a reduced matrix is made of those rows. -/
theorem sq_full (K : Laws B) {n r : Nat} {R : Nat → Nat → B} {l : Nat → Nat} {v : Nat → B} (h : Red r R l) (hl : ∀ i, i < r → l i < n) (hw : Wide n v) (hp : Perp n r R v) : v = comb n (sqM r R l) v := by
  funext j
  show v j = sm n fun k => v k * sqM r R l k j
  by_cases hj : j < n
  · by_cases hx : ∃ i, i < r ∧ l i = j
    · obtain ⟨i, hi, rfl⟩ := hx
      have h1 := hp i hi
      have h2 : ∀ k, k < n → v k * sqM r R l k (l i) = R i k * v k + (if k = l i then v k else 0) := fun k _ => by
        unfold sqM
        by_cases ha : (List.range r).any (fun i => l i == k) = true
        · rw [if_pos ha, K.mul_zero]
          obtain ⟨m, hm, rfl⟩ := lead_any.1 ha
          by_cases hmi : m = i
          · subst hmi
            rw [h.one m hm, K.one_mul, if_pos rfl, K.add_self]
          · rw [h.zero m i hm hi (Ne.symm hmi), if_neg (fun e => hmi (h.inj hm hi e)), K.mul_comm, K.mul_zero, K.add_zero]
        · rw [if_neg ha]
          have hne : ∀ m, m < r → l m ≠ k := fun m hm e => ha (lead_any.2 ⟨m, hm, e⟩)
          have e1 : sqV r R l k (l i) = R i k := by
            unfold sqV
            rw [if_neg (hne i hi), K.zero_add, sm_one K hi (fun m hm hmi => by rw [if_neg (fun e => hmi (h.inj hm hi e))]), if_pos rfl]
          rw [e1, if_neg (fun e => hne i hi e.symm), K.add_zero, K.mul_comm]
      have h3 : sm n (fun k => R i k * v k) = 0 := h1
      rw [sm_congr h2, sm_add K, h3, K.zero_add, sm_one K (hl i hi) (fun k _ hne => if_neg hne), if_pos rfl]
    · have hne : ∀ m, m < r → l m ≠ j := fun m hm e => hx ⟨m, hm, e⟩
      have e0 : ∀ k, sqV r R l k j = if j = k then 1 else 0 := fun k => by
        unfold sqV
        rw [sm_zero K r (fun i hi => if_neg (hne i hi)), K.add_zero]
      rw [sm_one K hj (fun k _ hkj => by
        unfold sqM
        rw [e0, if_neg (Ne.symm hkj)]
        split <;> exact K.mul_zero _)]
      unfold sqM
      rw [if_neg (fun ha => by obtain ⟨m, hm, e⟩ := lead_any.1 ha; exact hne m hm e), e0, if_pos rfl, K.mul_one]
  · rw [hw j (by omega)]
    exact (sm_zero K n fun k hk => by
      unfold sqM sqV
      rw [if_neg (show ¬ j = k by omega), K.zero_add, sm_zero K r (fun i hi => if_neg (by have := hl i hi; omega))]
      split <;> exact K.mul_zero _).symm
theorem sqM_perp (K : Laws B) {n r k : Nat} {R : Nat → Nat → B} {l : Nat → Nat} (h : Red r R l) (hk : k < n) (hl : ∀ i, i < r → l i < n) : Perp n r R (sqM r R l k) := fun i hi => by
  by_cases ha : (List.range r).any (fun i => l i == k) = true
  · have e : sqM r R l k = fun _ => 0 := funext fun j => if_pos ha
    rw [e]
    exact sm_zero K n fun j _ => K.mul_zero _
  · have e : sqM r R l k = sqV r R l k := funext fun j => if_neg ha
    rw [e]
    exact sq_perp K h hk hl i hi
/-- Square to all those rows: in the span. -/
theorem perp_iff (K : Laws B) {n r : Nat} {R : Nat → Nat → B} {l : Nat → Nat} {w : Nat → B} (h : Red r R l) (hl : ∀ i, i < r → l i < n) (hR : ∀ i, i < r → Wide n (R i)) (hw : Wide n w) :
    InSpan r R w ↔ Perp n n (sqM r R l) w := by
  constructor
  · intro hs k hk
    have h1 := (sqM_perp K h hk hl).span K hs
    rwa [dot_comm K] at h1
  · intro hp
    refine perp_perp K h hl hR hw fun k hk hne => ?_
    have h1 := hp k hk
    have e : sqM r R l k = sqV r R l k := funext fun j => if_neg fun ha => by obtain ⟨m, hm, e⟩ := lead_any.1 ha; exact hne m hm e
    rw [e, dot_comm K] at h1
    exact h1
theorem sq_iff (K : Laws B) {n r : Nat} {R : Nat → Nat → B} {l : Nat → Nat} {v : Nat → B} (h : Red r R l) (hl : ∀ i, i < r → l i < n) (hw : Wide n v) : InSpan n (sqM r R l) v ↔ Perp n r R v := by
  constructor
  · rintro ⟨c, rfl⟩ i hi
    rw [dot_comm K, dot_comb K]
    exact sm_zero K n fun k hk => by rw [dot_comm K, sqM_perp K h hk hl i hi, K.mul_zero]
  · exact fun hp => ⟨v, sq_full K h hl hw hp⟩
theorem perp_cat {B : Type} [Add B] [Mul B] [Zero B] {n p q : Nat} {R S : Nat → Nat → B} {v : Nat → B} : Perp n (p + q) (catM p R S) v ↔ Perp n p R v ∧ Perp n q S v := by
  constructor
  · intro h
    refine ⟨fun i hi => ?_, fun i hi => ?_⟩
    · have := h i (by omega)
      rwa [catM_lt hi] at this
    · have := h (p + i) (by omega)
      rwa [catM_ge] at this
  · rintro ⟨h1, h2⟩ i hi
    by_cases x : i < p
    · rw [catM_lt x]; exact h1 i x
    · obtain ⟨k, rfl⟩ : ∃ k, i = p + k := ⟨i - p, by omega⟩
      rw [catM_ge]; exact h2 k (by omega)
/-- What is square to all that is square to either: the meet. -/
theorem meet_iff (K : Laws B) {n p q t : Nat} {R S T : Nat → Nat → B} {l m o : Nat → Nat} {w : Nat → B} (hR : Red p R l) (hS : Red q S m) (hT : Red t T o) (wR : ∀ i, i < p → Wide n (R i)) (wS : ∀ i, i < q → Wide n (S i)) (wT : ∀ i, i < t → Wide n (T i))
    (h1 : Within t T (n + n) (catM n (sqM p R l) (sqM q S m))) (h2 : Within (n + n) (catM n (sqM p R l) (sqM q S m)) t T) (hw : Wide n w) :
    InSpan n (sqM t T o) w ↔ InSpan p R w ∧ InSpan q S w := by
  rw [sq_iff K hT (fun i hi => hT.lead_lt K wT hi) hw, perp_iff K hR (fun i hi => hR.lead_lt K wR hi) wR hw, perp_iff K hS (fun i hi => hS.lead_lt K wS hi) wS hw, ← perp_cat]
  exact ⟨fun h => h.within K h2, fun h => h.within K h1⟩
/-- Whether the rank grows with a row tells whether the row lies outside. -/
theorem rank_in [DecidableEq B] (K : Laws B) {r p q : Nat} {M : Nat → Nat → B} {v : Nat → B} (h : HasRank r M p) (k : HasRank (r + 1) (insM r M v) q) (hm : ¬ InSpan r M v → q = p + 1) : InSpan r M v ↔ q = p := by
  constructor
  · intro hv
    obtain ⟨a, b⟩ := within_more K hv
    exact (rank_same K b a h k).symm
  · intro e
    exact Classical.byContradiction fun hv => by have := hm hv; omega
end
end Go.Proofs.YtcjjhblgejkkeaaGreat.Lin
/- The document's rows that are square to a reduced matrix, as lists. -/
namespace Go.Proofs.YtcjjhblgejkkeaaGreat.Lin
def leadAt (r : Nat) (l : Nat → Nat) (j : Nat) : Option Nat := (List.range r).find? fun i => l i == j
theorem leadAt_some {r j i : Nat} {l : Nat → Nat} (h : leadAt r l j = some i) : i < r ∧ l i = j := by
  have h1 := List.mem_of_find?_eq_some h
  have h2 := List.find?_some h
  simp at h1 h2
  exact ⟨h1, h2⟩
theorem leadAt_none {r j : Nat} {l : Nat → Nat} (h : leadAt r l j = none) : ∀ i, i < r → l i ≠ j := fun i hi => by
  have h1 := List.find?_eq_none.1 h i (List.mem_range.2 hi)
  simpa using h1
/-- The row for column k. -/
def rowSq (n : Nat) (R : List (List Nat)) (l : Nat → Nat) (k : Nat) : List Nat := (List.range n).map fun j => match leadAt R.length l j with
  | some i => (R.getD i []).getD k 0
  | none => if j = k then 1 else 0
/-- All of them. -/
def squareL (n : Nat) (R : List (List Nat)) (l : Nat → Nat) : List (List Nat) := ((List.range n).filter fun k => (leadAt R.length l k).isNone).map (rowSq n R l)
theorem rowSq_ok {n : Nat} {R : List (List Nat)} (l : Nat → Nat) (h : RowsOk n R) (k : Nat) : (rowSq n R l k).length = n ∧ AllB (rowSq n R l k) := by
  refine ⟨by simp [rowSq], fun x hx => ?_⟩
  obtain ⟨j, _, rfl⟩ := List.mem_map.1 hx
  split
  · rename_i i hi
    exact (h.at_ (leadAt_some hi).1).2.getD k
  · split <;> omega
theorem squareL_ok {n : Nat} {R : List (List Nat)} (l : Nat → Nat) (h : RowsOk n R) : RowsOk n (squareL n R l) := fun x hx => by
  obtain ⟨k, _, rfl⟩ := List.mem_map.1 hx
  exact rowSq_ok l h k
theorem vec_sq {n k : Nat} {R : List (List Nat)} {l : Nat → Nat} (hk : k < n) (h : Red R.length (fn R) l) (hl : ∀ i, i < R.length → l i < n) (hne : ∀ i, i < R.length → l i ≠ k) : vec (rowSq n R l k) = sqV R.length (fn R) l k := by
  funext j
  unfold sqV
  by_cases hj : j < n
  · have e : (rowSq n R l k).getD j 0 = match leadAt R.length l j with
      | some i => (R.getD i []).getD k 0
      | none => if j = k then 1 else 0 := by simp [rowSq, List.getD, hj]
    show byte ((rowSq n R l k).getD j 0) = _
    rw [e]
    cases hx : leadAt R.length l j with
    | some i =>
      obtain ⟨hi, rfl⟩ := leadAt_some hx
      show byte ((R.getD i []).getD k 0) = _
      rw [if_neg (hne i hi), laws.zero_add, sm_one laws hi (fun m hm hmi => if_neg fun e => hmi (h.inj hm hi e)), if_pos rfl]
      rfl
    | none =>
      have hn := leadAt_none hx
      rw [sm_zero laws _ (fun i hi => if_neg (hn i hi)), laws.add_zero]
      dsimp only
      split <;> rfl
  · rw [vec_wide (n := n) (by simp [rowSq]) j (by omega), if_neg (by omega), laws.zero_add]
    exact (sm_zero laws _ fun i hi => if_neg (by have := hl i hi; omega)).symm
theorem square_same {n : Nat} {R : List (List Nat)} {l : Nat → Nat} (h : Red R.length (fn R) l) (hl : ∀ i, i < R.length → l i < n) :
    Within (squareL n R l).length (fn (squareL n R l)) n (sqM R.length (fn R) l) ∧ Within n (sqM R.length (fn R) l) (squareL n R l).length (fn (squareL n R l)) := by
  have any_none : ∀ k, (leadAt R.length l k).isNone = true ↔ ∀ i, i < R.length → l i ≠ k := fun k => by
    constructor
    · intro e
      exact leadAt_none (by simpa using e)
    · intro hn
      cases hx : leadAt R.length l k with
      | none => rfl
      | some i => exact absurd (leadAt_some hx).2 (hn i (leadAt_some hx).1)
  have sqM_eq : ∀ k, (∀ i, i < R.length → l i ≠ k) → sqM R.length (fn R) l k = sqV R.length (fn R) l k := fun k hn => funext fun j => if_neg fun ha => by
    obtain ⟨m, hm, e⟩ := lead_any.1 ha
    exact hn m hm e
  constructor
  · intro i hi
    have hm : (squareL n R l).getD i [] ∈ squareL n R l := by
      rw [List.getD, List.getElem?_eq_getElem hi]
      exact List.getElem_mem hi
    obtain ⟨k, hk, e⟩ := List.mem_map.1 hm
    rw [List.mem_filter] at hk
    have hkn : k < n := List.mem_range.1 hk.1
    have hne := (any_none k).1 hk.2
    show InSpan _ _ (vec ((squareL n R l).getD i []))
    rw [← e, vec_sq hkn h hl hne, ← sqM_eq k hne]
    exact InSpan.row laws _ hkn
  · intro k hk
    by_cases ha : (List.range R.length).any (fun i => l i == k) = true
    · have e : sqM R.length (fn R) l k = fun _ => 0 := funext fun j => if_pos ha
      rw [e]
      exact InSpan.zero laws _ _
    · have hne : ∀ i, i < R.length → l i ≠ k := fun i hi e => ha (lead_any.2 ⟨i, hi, e⟩)
      have hm : rowSq n R l k ∈ squareL n R l := List.mem_map.2 ⟨k, List.mem_filter.2 ⟨List.mem_range.2 hk, (any_none k).2 hne⟩, rfl⟩
      obtain ⟨i, hi, e⟩ := List.getElem_of_mem hm
      rw [sqM_eq k hne, ← vec_sq hk h hl hne]
      have e2 : vec (rowSq n R l k) = fn (squareL n R l) i := by
        show _ = vec ((squareL n R l).getD i [])
        rw [List.getD, List.getElem?_eq_getElem hi, e]
        rfl
      rw [e2]
      exact InSpan.row laws _ hi
end Go.Proofs.YtcjjhblgejkkeaaGreat.Lin
/- Ranks tell which spans contain which. -/
namespace Go.Proofs.YtcjjhblgejkkeaaGreat.Lin
section
variable {B : Type} [Add B] [Mul B] [Zero B] [One B]
/-- As many free rows as span it: they span all of it. -/
theorem span_full [DecidableEq B] (K : Laws B) {p s : Nat} {R S : Nat → Nat → B} (hf : Free p R) (hw : Within p R s S) (hs : s ≤ p) : Within s S p R := fun i hi => Classical.byContradiction fun hv => by
  have hfm := free_more K hf hv
  have := free_le K hfm (N := S) (s := s) fun k hk => by
    by_cases hp : k < p
    · rw [insM_lt hp]; exact hw k hp
    · obtain rfl : k = p := by omega
      rw [insM_at]; exact InSpan.row K S hi
  omega
end
theorem Makes.left {L M : List (List Nat)} {v : Nat → By} (h : Makes L v) : Makes (L ++ M) v := makes_append.2 ⟨v, fun _ => 0, h, InSpan.zero laws _ _, funext fun _ => (laws.add_zero _).symm⟩
theorem Makes.right {L M : List (List Nat)} {v : Nat → By} (h : Makes M v) : Makes (L ++ M) v := makes_append.2 ⟨fun _ => 0, v, InSpan.zero laws _ _, h, funext fun _ => (laws.zero_add _).symm⟩
theorem within_left (L M : List (List Nat)) : Within L.length (fn L) (L ++ M).length (fn (L ++ M)) := fun _ hi => Makes.left (InSpan.row laws (fn L) hi)
theorem within_right (L M : List (List Nat)) : Within M.length (fn M) (L ++ M).length (fn (L ++ M)) := fun _ hi => Makes.right (InSpan.row laws (fn M) hi)
theorem within_both {L M N : List (List Nat)} (h : Within L.length (fn L) N.length (fn N)) (k : Within M.length (fn M) N.length (fn N)) : Within (L ++ M).length (fn (L ++ M)) N.length (fn N) := fun i hi => by
  have h1 : Makes (L ++ M) (fn (L ++ M) i) := InSpan.row laws _ hi
  obtain ⟨a, b, ha, hb, e⟩ := makes_append.1 h1
  rw [e]
  exact InSpan.add laws (InSpan.trans laws ha h) (InSpan.trans laws hb k)
/-- The rank does not grow: contained. -/
theorem contains_iff {n : Nat} {L M R S : List (List Nat)} (hR : RedL n R) (sR : SameSpan R L) (hS : RedL n S) (sS : SameSpan S (L ++ M)) : S.length = R.length ↔ Within M.length (fn M) L.length (fn L) := by
  constructor
  · intro e
    obtain ⟨_, l, hl⟩ := hR
    have h1 : Within R.length (fn R) S.length (fn S) := (sR.1.trans laws (within_left L M)).trans laws sS.2
    have h2 := span_full laws (hl.free laws) h1 (by omega)
    exact (((within_right L M).trans laws sS.2).trans laws h2).trans laws sR.1
  · intro h
    have h1 : SameSpan (L ++ M) L := ⟨within_both (Within.refl laws _ _) h, within_left L M⟩
    rw [red_unique hS hR ((sS.trans h1).trans sR.symm)]
theorem has_iff {n : Nat} {L R S : List (List Nat)} {v : List Nat} (hR : RedL n R) (sR : SameSpan R L) (hS : RedL n S) (sS : SameSpan S (L ++ [v])) : S.length = R.length ↔ Makes L (vec v) := by
  rw [contains_iff hR sR hS sS]
  constructor
  · exact fun h => h 0 (by simp)
  · intro h i hi
    obtain rfl : i = 0 := by simpa using hi
    exact h
end Go.Proofs.YtcjjhblgejkkeaaGreat.Lin
/- The document's meet, as lists. -/
namespace Go.Proofs.YtcjjhblgejkkeaaGreat.Lin
theorem same_makes {L M : List (List Nat)} (h : SameSpan L M) (v : Nat → By) : Makes L v ↔ Makes M v := ⟨fun x => InSpan.trans laws x h.1, fun x => InSpan.trans laws x h.2⟩
/-- Two lists that make the same vectors of n numbers have one span. -/
theorem same_of_makes {n : Nat} {L M : List (List Nat)} (hL : RowsOk n L) (hM : RowsOk n M) (h : ∀ v, Wide n v → (Makes L v ↔ Makes M v)) : SameSpan L M :=
  ⟨fun i hi => (h _ (hL.wide i hi)).1 (InSpan.row laws _ hi), fun i hi => (h _ (hM.wide i hi)).2 (InSpan.row laws _ hi)⟩
theorem meet_list {n : Nat} {X Y R S T M : List (List Nat)} {l m o : Nat → Nat} (hR : Red R.length (fn R) l) (hS : Red S.length (fn S) m) (hT : Red T.length (fn T) o) (kR : RowsOk n R) (kS : RowsOk n S) (kT : RowsOk n T)
    (sR : SameSpan R X) (sS : SameSpan S Y) (sT : SameSpan T (squareL n R l ++ squareL n S m)) (sM : SameSpan M (squareL n T o)) {v : Nat → By} (hv : Wide n v) : Makes M v ↔ Makes X v ∧ Makes Y v := by
  have lR : ∀ i, i < R.length → l i < n := fun i hi => hR.lead_lt laws kR.wide hi
  have lS : ∀ i, i < S.length → m i < n := fun i hi => hS.lead_lt laws kS.wide hi
  have lT : ∀ i, i < T.length → o i < n := fun i hi => hT.lead_lt laws kT.wide hi
  have qR := square_same hR lR
  have qS := square_same hS lS
  have qT := square_same hT lT
  have c1 : ∀ u, Makes (squareL n R l ++ squareL n S m) u ↔ InSpan (n + n) (catM n (sqM R.length (fn R) l) (sqM S.length (fn S) m)) u := fun u => by
    rw [makes_append, span_cat laws]
    constructor
    · rintro ⟨a, b, ha, hb, e⟩
      exact ⟨a, b, InSpan.trans laws ha qR.1, InSpan.trans laws hb qS.1, e⟩
    · rintro ⟨a, b, ha, hb, e⟩
      exact ⟨a, b, InSpan.trans laws ha qR.2, InSpan.trans laws hb qS.2, e⟩
  rw [same_makes sM, ← same_makes sR, ← same_makes sS]
  have h1 : Makes (squareL n T o) v ↔ InSpan n (sqM T.length (fn T) o) v := ⟨fun x => InSpan.trans laws x qT.1, fun x => InSpan.trans laws x qT.2⟩
  rw [h1]
  exact meet_iff laws hR hS hT kR.wide kS.wide kT.wide (fun i hi => (c1 _).1 (InSpan.trans laws (InSpan.row laws (fn T) hi) sT.1)) (fun i hi => InSpan.trans laws ((c1 _).2 (InSpan.row laws _ hi)) sT.2) hv
/-- One reduced matrix for what two spans have together. -/
theorem meet_unique {n : Nat} {X Y M N : List (List Nat)} (hM : RedL n M) (hN : RedL n N) (h : ∀ v, Wide n v → (Makes M v ↔ Makes X v ∧ Makes Y v)) (k : ∀ v, Wide n v → (Makes N v ↔ Makes X v ∧ Makes Y v)) : M = N :=
  red_unique hM hN (same_of_makes hM.1 hN.1 fun v hv => (h v hv).trans (k v hv).symm)
theorem makes_wide {n : Nat} {L : List (List Nat)} (hL : RowsOk n L) {v : Nat → By} (h : Makes L v) : Wide n v := InSpan.wide laws h hL.wide
/-- The modular law. -/
theorem modular {n : Nat} {X Y Z YZ L XY N : List (List Nat)} (hL : RedL n L) (hN : RedL n N) (kY : RowsOk n Y) (kXY : RowsOk n XY) (hz : Within Z.length (fn Z) X.length (fn X)) (sYZ : SameSpan YZ (Y ++ Z))
    (mL : ∀ v, Wide n v → (Makes L v ↔ Makes X v ∧ Makes YZ v)) (mXY : ∀ v, Wide n v → (Makes XY v ↔ Makes X v ∧ Makes Y v)) (sN : SameSpan N (XY ++ Z)) : L = N := by
  refine red_unique hL hN (same_of_makes hL.1 hN.1 fun v hv => ?_)
  rw [mL v hv, same_makes sYZ, same_makes sN, makes_append, makes_append]
  constructor
  · rintro ⟨hx, a, b, ha, hb, rfl⟩
    refine ⟨a, b, (mXY a (makes_wide kY ha)).2 ⟨?_, ha⟩, hb, rfl⟩
    have h1 := InSpan.add laws hx (InSpan.trans laws hb hz)
    have e : (fun j => a j + b j + b j) = a := funext fun j => by rw [laws.add_assoc, laws.add_self, laws.add_zero]
    rw [e] at h1
    exact h1
  · rintro ⟨a, b, ha, hb, rfl⟩
    obtain ⟨h1, h2⟩ := (mXY a (makes_wide kXY ha)).1 ha
    exact ⟨InSpan.add laws h1 (InSpan.trans laws hb hz), a, b, h2, hb, rfl⟩
/-- A sum with what is contained is the containing one; the meet is the contained one. -/
theorem sum_contained {n : Nat} {X Y R S : List (List Nat)} (hR : RedL n R) (sR : SameSpan R X) (hS : RedL n S) (sS : SameSpan S (X ++ Y)) (h : Within Y.length (fn Y) X.length (fn X)) : S = R :=
  red_unique hS hR ((sS.trans ⟨within_both (Within.refl laws _ _) h, within_left X Y⟩).trans sR.symm)
theorem meet_contained {n : Nat} {X Y M R : List (List Nat)} (hM : RedL n M) (mM : ∀ v, Wide n v → (Makes M v ↔ Makes X v ∧ Makes Y v)) (hR : RedL n R) (sR : SameSpan R Y) (h : Within Y.length (fn Y) X.length (fn X)) : M = R :=
  red_unique hM hR (same_of_makes hM.1 hR.1 fun v hv => by
    rw [mM v hv, same_makes sR]
    exact ⟨fun x => x.2, fun x => ⟨InSpan.trans laws x h, x⟩⟩)
/-- Sums and meets either way round. -/
theorem sum_turned {n : Nat} {X Y S T : List (List Nat)} (hS : RedL n S) (sS : SameSpan S (X ++ Y)) (hT : RedL n T) (sT : SameSpan T (Y ++ X)) : S = T :=
  red_unique hS hT (sS.trans ⟨within_both (within_right Y X) (within_left Y X), within_both (within_right X Y) (within_left X Y)⟩ |>.trans sT.symm)
theorem meet_turned {n : Nat} {X Y M N : List (List Nat)} (hM : RedL n M) (mM : ∀ v, Wide n v → (Makes M v ↔ Makes X v ∧ Makes Y v)) (hN : RedL n N) (mN : ∀ v, Wide n v → (Makes N v ↔ Makes Y v ∧ Makes X v)) : M = N :=
  meet_unique hM hN mM fun v hv => (mN v hv).trans And.comm
/-- What contains both contains the sum; what both contain the meet contains. -/
theorem sum_least {X Y S Z : List (List Nat)} (sS : SameSpan S (X ++ Y)) : Within S.length (fn S) Z.length (fn Z) ↔ Within X.length (fn X) Z.length (fn Z) ∧ Within Y.length (fn Y) Z.length (fn Z) :=
  ⟨fun h => ⟨((within_left X Y).trans laws sS.2).trans laws h, ((within_right X Y).trans laws sS.2).trans laws h⟩, fun h => sS.1.trans laws (within_both h.1 h.2)⟩
theorem meet_most {n : Nat} {X Y M Z : List (List Nat)} (kZ : RowsOk n Z) (mM : ∀ v, Wide n v → (Makes M v ↔ Makes X v ∧ Makes Y v)) : Within Z.length (fn Z) M.length (fn M) ↔ Within Z.length (fn Z) X.length (fn X) ∧ Within Z.length (fn Z) Y.length (fn Y) :=
  ⟨fun h => ⟨fun i hi => ((mM _ (kZ.wide i hi)).1 (h i hi)).1, fun i hi => ((mM _ (kZ.wide i hi)).1 (h i hi)).2⟩, fun h i hi => (mM _ (kZ.wide i hi)).2 ⟨h.1 i hi, h.2 i hi⟩⟩
end Go.Proofs.YtcjjhblgejkkeaaGreat.Lin
/- How many rows sums and meets have; a row that lies outside makes the rank one more. -/
namespace Go.Proofs.YtcjjhblgejkkeaaGreat.Lin
theorem same_append {X Y R S : List (List Nat)} (h : SameSpan R X) (k : SameSpan S Y) : SameSpan (X ++ Y) (R ++ S) :=
  ⟨within_both (h.2.trans laws (within_left R S)) (k.2.trans laws (within_right R S)), within_both (h.1.trans laws (within_left X Y)) (k.1.trans laws (within_right X Y))⟩
theorem dims_list {n : Nat} {X Y R S T M : List (List Nat)} (hR : RedL n R) (sR : SameSpan R X) (hS : RedL n S) (sS : SameSpan S Y) (hT : RedL n T) (sT : SameSpan T (X ++ Y)) (hM : RedL n M)
    (mM : ∀ v, Wide n v → (Makes M v ↔ Makes X v ∧ Makes Y v)) : T.length + M.length = R.length + S.length := by
  refine dimsL hR hS hT hM (sT.trans (same_append sR sS)) fun v => ?_
  rw [same_makes sR, same_makes sS]
  constructor
  · exact fun h => (mM v (makes_wide hM.1 h)).1 h
  · exact fun h => (mM v (makes_wide hR.1 ((same_makes sR v).2 h.1))).2 h
theorem rank_outside {n : Nat} {L R T : List (List Nat)} {v : List Nat} (hR : RedL n R) (sR : SameSpan R L) (hT : RedL n T) (sT : SameSpan T (L ++ [v])) (hv : ¬ Makes L (vec v)) : T.length = R.length + 1 := by
  have h1 : T.length ≠ R.length := fun e => hv ((has_iff hR sR hT sT).1 e)
  obtain ⟨_, l, rl⟩ := hR
  obtain ⟨_, m, rm⟩ := hT
  have h2 : R.length ≤ T.length := free_le laws (rl.free laws) ((sR.1.trans laws (within_left L [v])).trans laws sT.2)
  have h3 : T.length ≤ (R ++ [v]).length := free_le laws (rm.free laws) (sT.1.trans laws (same_append sR (SameSpan.refl [v])).1)
  rw [List.length_append] at h3
  simp at h3
  omega
/-- The same spans, the same reduced matrix. -/
theorem same_iff {n : Nat} {X Y R S : List (List Nat)} (hR : RedL n R) (sR : SameSpan R X) (hS : RedL n S) (sS : SameSpan S Y) : R = S ↔ SameSpan X Y := by
  constructor
  · rintro rfl
    exact sR.symm.trans sS
  · exact fun h => red_unique hR hS ((sR.trans h).trans sS.symm)
/-- The first row that lies outside; if there is none, all lies inside. -/
theorem none_outside {X Y : List (List Nat)} (h : ∀ i, i < X.length → Makes Y (fn X i)) {v : Nat → By} (hv : Makes X v) : Makes Y v := InSpan.trans laws hv h
end Go.Proofs.YtcjjhblgejkkeaaGreat.Lin
