/- Rows over a field of characteristic 2, plainly: spans, free rows, reduced matrices (one form of one span), ranks, products, transposes, units (layers 6 to 8). No dump. -/
import Derived.Test.YtcjjhblgejkkeaaGreatMem
import Derived.Test.YtcjjhblgejkkeaaGreatVec
import Derived.Test.YtcjjhblgejkkeaaGreatBytes
namespace Go.Proofs.YtcjjhblgejkkeaaGreat.Lin
/-- What a field of characteristic 2 keeps. -/
structure Laws (B : Type) [Add B] [Mul B] [Zero B] [One B] : Prop where
  add_comm : ∀ a b : B, a + b = b + a
  add_assoc : ∀ a b c : B, a + b + c = a + (b + c)
  add_zero : ∀ a : B, a + 0 = a
  add_self : ∀ a : B, a + a = 0
  mul_comm : ∀ a b : B, a * b = b * a
  mul_assoc : ∀ a b c : B, a * b * c = a * (b * c)
  one_mul : ∀ a : B, 1 * a = a
  mul_add : ∀ a b c : B, a * (b + c) = a * b + a * c
  mul_zero : ∀ a : B, a * 0 = 0
  inv : ∀ a : B, a ≠ 0 → ∃ b, b * a = 1
  nought : (1 : B) ≠ 0
section
variable {B : Type} [Add B] [Mul B] [Zero B] [One B]
namespace Laws
theorem zero_add (K : Laws B) (a : B) : 0 + a = a := by rw [K.add_comm, K.add_zero]
theorem zero_mul (K : Laws B) (a : B) : 0 * a = 0 := by rw [K.mul_comm, K.mul_zero]
theorem mul_one (K : Laws B) (a : B) : a * 1 = a := by rw [K.mul_comm, K.one_mul]
theorem add_mul (K : Laws B) (a b c : B) : (a + b) * c = a * c + b * c := by rw [K.mul_comm, K.mul_add, K.mul_comm c, K.mul_comm c]
theorem add_left_comm (K : Laws B) (a b c : B) : a + (b + c) = b + (a + c) := by rw [← K.add_assoc, K.add_comm a b, K.add_assoc]
theorem add_add_comm (K : Laws B) (a b c d : B) : a + b + (c + d) = a + c + (b + d) := by rw [K.add_assoc, K.add_left_comm b, ← K.add_assoc]
theorem add_cancel (K : Laws B) (a b : B) : a + (a + b) = b := by rw [← K.add_assoc, K.add_self, K.zero_add]
theorem eq_of_add (K : Laws B) {a b : B} (h : a + b = 0) : a = b := by rw [← K.add_zero a, ← K.add_self b, ← K.add_assoc, h, K.zero_add]
theorem mul_eq_zero (K : Laws B) {a b : B} (h : a * b = 0) (ha : a ≠ 0) : b = 0 := by
  obtain ⟨c, hc⟩ := K.inv a ha
  rw [← K.one_mul b, ← hc, K.mul_assoc, h, K.mul_zero]
end Laws
/-- Sums. -/
def sm : Nat → (Nat → B) → B
  | 0, _ => 0
  | n + 1, f => sm n f + f n
theorem sm_congr {B : Type} [Add B] [Zero B] {n : Nat} {f g : Nat → B} (h : ∀ i, i < n → f i = g i) : sm n f = sm n g := by
  induction n with
  | zero => rfl
  | succ n ih => rw [sm, sm, ih fun i hi => h i (by omega), h n (by omega)]
theorem sm_zero (K : Laws B) (n : Nat) {f : Nat → B} (h : ∀ i, i < n → f i = 0) : sm n f = 0 := by
  induction n with
  | zero => rfl
  | succ n ih => rw [sm, ih fun i hi => h i (by omega), h n (by omega), K.add_zero]
theorem sm_add (K : Laws B) (n : Nat) (f g : Nat → B) : sm n (fun i => f i + g i) = sm n f + sm n g := by
  induction n with
  | zero => exact (K.add_zero 0).symm
  | succ n ih => rw [sm, sm, sm, ih, K.add_add_comm]
theorem sm_mul (K : Laws B) (n : Nat) (a : B) (f : Nat → B) : sm n (fun i => a * f i) = a * sm n f := by
  induction n with
  | zero => exact (K.mul_zero a).symm
  | succ n ih => rw [sm, sm, ih, K.mul_add]
theorem sm_swap (K : Laws B) (n m : Nat) (f : Nat → Nat → B) : sm n (fun i => sm m (f i)) = sm m (fun j => sm n (fun i => f i j)) := by
  induction n with
  | zero => exact (sm_zero K m fun _ _ => rfl).symm
  | succ n ih => rw [sm, ih, ← sm_add K]; rfl
theorem sm_one (K : Laws B) {n k : Nat} (hk : k < n) {f : Nat → B} (h : ∀ i, i < n → i ≠ k → f i = 0) : sm n f = f k := by
  induction n with
  | zero => omega
  | succ n ih =>
    rw [sm]
    by_cases e : k = n
    · subst e
      rw [sm_zero K k fun i hi => h i (by omega) (by omega), K.zero_add]
    · rw [ih (by omega) fun i hi => h i (by omega), h n (by omega) (fun e2 => e e2.symm), K.add_zero]
/-- What r rows, each with its factor, make. -/
def comb (r : Nat) (M : Nat → Nat → B) (c : Nat → B) : Nat → B := fun j => sm r fun i => c i * M i j
def InSpan (r : Nat) (M : Nat → Nat → B) (v : Nat → B) : Prop := ∃ c, v = comb r M c
/-- Each row of the one lies in the other's span. -/
def Within (r : Nat) (M : Nat → Nat → B) (s : Nat) (N : Nat → Nat → B) : Prop := ∀ i, i < r → InSpan s N (M i)
theorem InSpan.add (K : Laws B) {r : Nat} {M : Nat → Nat → B} {u v : Nat → B} (h : InSpan r M u) (k : InSpan r M v) : InSpan r M fun j => u j + v j := by
  obtain ⟨c, rfl⟩ := h
  obtain ⟨d, rfl⟩ := k
  refine ⟨fun i => c i + d i, funext fun j => ?_⟩
  show sm r (fun i => c i * M i j) + sm r (fun i => d i * M i j) = sm r fun i => (c i + d i) * M i j
  rw [← sm_add K]
  exact sm_congr fun i _ => (K.add_mul _ _ _).symm
theorem InSpan.mul (K : Laws B) {r : Nat} {M : Nat → Nat → B} {v : Nat → B} (a : B) (h : InSpan r M v) : InSpan r M fun j => a * v j := by
  obtain ⟨c, rfl⟩ := h
  refine ⟨fun i => a * c i, funext fun j => ?_⟩
  show a * sm r (fun i => c i * M i j) = sm r fun i => a * c i * M i j
  rw [← sm_mul K]
  exact sm_congr fun i _ => (K.mul_assoc _ _ _).symm
theorem InSpan.zero (K : Laws B) (r : Nat) (M : Nat → Nat → B) : InSpan r M fun _ => 0 :=
  ⟨fun _ => 0, funext fun _ => (sm_zero K r fun _ _ => K.zero_mul _).symm⟩
theorem InSpan.row (K : Laws B) {r i : Nat} (M : Nat → Nat → B) (hi : i < r) : InSpan r M (M i) := by
  refine ⟨fun k => if k = i then 1 else 0, funext fun j => ?_⟩
  show M i j = sm r fun k => (if k = i then 1 else 0) * M k j
  rw [sm_one K hi]
  · rw [if_pos rfl, K.one_mul]
  · intro k _ hk
    rw [if_neg hk, K.zero_mul]
theorem InSpan.sum (K : Laws B) {r : Nat} {M : Nat → Nat → B} (n : Nat) (u : Nat → Nat → B) (h : ∀ i, i < n → InSpan r M (u i)) : InSpan r M fun j => sm n fun i => u i j := by
  induction n with
  | zero => exact InSpan.zero K r M
  | succ n ih => exact InSpan.add K (ih fun i hi => h i (by omega)) (h n (by omega))
theorem InSpan.trans (K : Laws B) {r s : Nat} {M N : Nat → Nat → B} {v : Nat → B} (h : InSpan r M v) (k : Within r M s N) : InSpan s N v := by
  obtain ⟨c, rfl⟩ := h
  exact InSpan.sum K r (fun i j => c i * M i j) fun i hi => InSpan.mul K (c i) (k i hi)
theorem Within.refl (K : Laws B) (r : Nat) (M : Nat → Nat → B) : Within r M r M := fun _ hi => InSpan.row K M hi
theorem Within.trans (K : Laws B) {r s t : Nat} {M N O : Nat → Nat → B} (h : Within r M s N) (k : Within s N t O) : Within r M t O := fun i hi => InSpan.trans K (h i hi) k
/-- Rows of which only noughts make noughts. -/
def Free (r : Nat) (M : Nat → Nat → B) : Prop := ∀ c : Nat → B, (∀ j, comb r M c j = 0) → ∀ i, i < r → c i = 0
/-- All places but one. -/
def skip (p i : Nat) : Nat := if i < p then i else i + 1
theorem skip_ne (p i : Nat) : skip p i ≠ p := by unfold skip; split <;> omega
theorem skip_back (p i : Nat) : (if skip p i < p then skip p i else skip p i - 1) = i := by
  by_cases h : i < p
  · have e : skip p i = i := by rw [skip, if_pos h]
    rw [e, if_pos h]
  · have e : skip p i = i + 1 := by rw [skip, if_neg h]
    rw [e, if_neg (by omega)]; omega
theorem skip_lt {p i n : Nat} (hi : i < n) : skip p i < n + 1 := by unfold skip; split <;> omega
theorem sm_skip (K : Laws B) (n p : Nat) (hp : p ≤ n) (f : Nat → B) : sm (n + 1) f = f p + sm n fun i => f (skip p i) := by
  induction n with
  | zero =>
    obtain rfl : p = 0 := by omega
    show 0 + f 0 = f 0 + 0
    rw [K.zero_add, K.add_zero]
  | succ n ih =>
    by_cases e : p = n + 1
    · subst e
      rw [sm, K.add_comm]
      congr 1
      exact sm_congr fun i hi => by rw [skip, if_pos hi]
    · rw [sm, ih (by omega), sm, K.add_assoc, show skip p n = n + 1 by rw [skip, if_neg (by omega)]]
/-- More unknowns than equations: a solution that is not all noughts. -/
theorem kernel [DecidableEq B] (K : Laws B) : ∀ (s r : Nat) (C : Nat → Nat → B), s < r → ∃ d : Nat → B, (∃ i, i < r ∧ d i ≠ 0) ∧ ∀ k, k < s → sm r (fun i => d i * C i k) = 0
  | 0, r, C, h => ⟨fun _ => 1, ⟨0, h, K.nought⟩, fun k hk => by omega⟩
  | s + 1, r, C, h => by
    obtain ⟨n, rfl⟩ : ∃ n, r = n + 1 := ⟨r - 1, by omega⟩
    by_cases hz : ∀ i, i < n + 1 → C i s = 0
    · obtain ⟨d, hd, hk⟩ := kernel K s (n + 1) C (by omega)
      refine ⟨d, hd, fun k hks => ?_⟩
      by_cases e : k = s
      · subst e
        exact sm_zero K _ fun i hi => by rw [hz i hi, K.mul_zero]
      · exact hk k (by omega)
    · obtain ⟨p, hp⟩ := Classical.not_forall.1 hz
      obtain ⟨hpn, hps⟩ := Classical.not_imp.1 hp
      obtain ⟨v, hv⟩ := K.inv _ hps
      obtain ⟨d, ⟨i0, hi0, hd0⟩, hk⟩ := kernel K s n (fun i k => C (skip p i) k + C (skip p i) s * v * C p k) (by omega)
      have hdx : ∀ i, (if skip p i = p then sm n (fun i => d i * (C (skip p i) s * v)) else d (if skip p i < p then skip p i else skip p i - 1)) = d i := fun i => by
        rw [if_neg (skip_ne p i), skip_back]
      have key : ∀ k, sm (n + 1) (fun i => (if i = p then sm n (fun i => d i * (C (skip p i) s * v)) else d (if i < p then i else i - 1)) * C i k) = sm n fun i => d i * (C (skip p i) k + C (skip p i) s * v * C p k) := fun k => by
        rw [sm_skip K n p (by omega), if_pos rfl]
        have e : sm n (fun i => d i * (C (skip p i) k + C (skip p i) s * v * C p k)) = sm n (fun i => d i * C (skip p i) k) + sm n (fun i => d i * (C (skip p i) s * v)) * C p k := by
          rw [K.mul_comm _ (C p k), ← sm_mul K, ← sm_add K]
          exact sm_congr fun i _ => by rw [K.mul_add, K.mul_comm (C p k), K.mul_assoc (d i)]
        rw [e, K.add_comm]
        congr 1
        exact sm_congr fun i _ => by rw [hdx]
      refine ⟨fun i => if i = p then sm n (fun i => d i * (C (skip p i) s * v)) else d (if i < p then i else i - 1), ⟨skip p i0, skip_lt hi0, ?_⟩, fun k hks => ?_⟩
      · show (if skip p i0 = p then _ else _) ≠ 0
        rw [hdx]; exact hd0
      rw [key]
      by_cases e : k = s
      · subst e
        refine sm_zero K _ fun i _ => ?_
        rw [K.mul_assoc (C (skip p i) k), hv, K.mul_one, K.add_self, K.mul_zero]
      · exact hk k (by omega)
/-- Free rows within a span are no more than its rows. -/
theorem free_le [DecidableEq B] (K : Laws B) {r s : Nat} {M N : Nat → Nat → B} (h : Free r M) (k : Within r M s N) : r ≤ s := by
  rcases Nat.lt_or_ge s r with hlt | hge
  · exfalso
    have hC : ∃ C : Nat → Nat → B, ∀ i, i < r → M i = comb s N (C i) := by
      refine ⟨fun i => if hi : i < r then Classical.choose (k i hi) else fun _ => 0, fun i hi => ?_⟩
      simp only [dif_pos hi]
      exact Classical.choose_spec (k i hi)
    obtain ⟨C, hC⟩ := hC
    obtain ⟨d, ⟨i0, hi0, hd0⟩, hd⟩ := kernel K s r C hlt
    refine hd0 (h d (fun j => ?_) i0 hi0)
    have e : comb r M d j = sm s fun k => sm r (fun i => d i * C i k) * N k j := by
      show sm r (fun i => d i * M i j) = _
      have e1 : sm r (fun i => d i * M i j) = sm r fun i => sm s fun k => d i * C i k * N k j := sm_congr fun i hi => by
        rw [hC i hi]
        show d i * sm s (fun k => C i k * N k j) = _
        rw [← sm_mul K]
        exact sm_congr fun k _ => (K.mul_assoc _ _ _).symm
      rw [e1, sm_swap K]
      exact sm_congr fun k _ => by
        rw [K.mul_comm, ← sm_mul K]
        exact sm_congr fun i _ => K.mul_comm _ _
    rw [e]
    exact sm_zero K _ fun k hk => by rw [hd k hk, K.zero_mul]
  · exact hge
/-- A reduced matrix of r rows, its leads. -/
structure Red (r : Nat) (R : Nat → Nat → B) (l : Nat → Nat) : Prop where
  inc : ∀ i j, i < j → j < r → l i < l j
  one : ∀ i, i < r → R i (l i) = 1
  zero : ∀ i k, i < r → k < r → k ≠ i → R k (l i) = 0
  low : ∀ i j, i < r → j < l i → R i j = 0
namespace Red
variable {r s : Nat} {R S : Nat → Nat → B} {l m : Nat → Nat}
theorem coef (K : Laws B) (h : Red r R l) (c : Nat → B) {i : Nat} (hi : i < r) : comb r R c (l i) = c i := by
  show sm r (fun k => c k * R k (l i)) = c i
  rw [sm_one K hi (fun k hk hne => by rw [h.zero i k hi hk hne, K.mul_zero]), h.one i hi, K.mul_one]
theorem free (K : Laws B) (h : Red r R l) : Free r R := fun c hc i hi => by rw [← h.coef K c hi]; exact hc _
/-- What lies in the span and has nought at each lead is nought. -/
theorem nought (K : Laws B) (h : Red r R l) {v : Nat → B} (hv : InSpan r R v) (hz : ∀ i, i < r → v (l i) = 0) : v = fun _ => 0 := by
  obtain ⟨c, rfl⟩ := hv
  have hc : ∀ i, i < r → c i = 0 := fun i hi => by rw [← h.coef K c hi]; exact hz i hi
  exact funext fun j => sm_zero K r fun i hi => by rw [hc i hi, K.zero_mul]
theorem lead_ge (K : Laws B) (h : Red r R l) (k : Red s S m) (hw : Within r R s S) (i : Nat) (hi : i < r) (hs : r = s) (ih : ∀ j, j < i → l j = m j) : m i ≤ l i := by
  rcases Nat.lt_or_ge (l i) (m i) with hlt | hge
  · exfalso
    obtain ⟨c, hc⟩ := hw i hi
    have hz : R i (l i) = 0 := by
      rw [hc]
      refine sm_zero K s fun j hj => ?_
      by_cases hji : j < i
      · have e : c j = 0 := by rw [← k.coef K c hj, ← hc, ← ih j hji]; exact h.zero j i (by omega) hi (by omega)
        rw [e, K.zero_mul]
      · have hl : l i < m j := by
          by_cases e : j = i
          · subst e; exact hlt
          · exact Nat.lt_trans hlt (k.inc i j (by omega) hj)
        rw [k.low j _ hj hl, K.mul_zero]
    rw [h.one i hi] at hz
    exact K.nought hz
  · exact hge
/-- ONE FORM: reduced matrices of one span are one. -/
theorem unique [DecidableEq B] (K : Laws B) (h : Red r R l) (k : Red s S m) (h1 : Within r R s S) (h2 : Within s S r R) : r = s ∧ ∀ i, i < r → l i = m i ∧ R i = S i := by
  have hrs : r = s := Nat.le_antisymm (free_le K (h.free K) h1) (free_le K (k.free K) h2)
  have hl : ∀ i, i < r → l i = m i := by
    intro i
    induction i using Nat.strongRecOn with
    | ind i ih =>
      intro hi
      have ih' : ∀ j, j < i → l j = m j := fun j hj => ih j hj (by omega)
      exact Nat.le_antisymm (k.lead_ge K h h2 i (by omega) hrs.symm fun j hj => (ih' j hj).symm) (h.lead_ge K k h1 i hi hrs ih')
  refine ⟨hrs, fun i hi => ⟨hl i hi, ?_⟩⟩
  have hin : InSpan r R fun j => R i j + S i j := InSpan.add K (InSpan.row K R hi) (h2 i (by omega))
  have hz := h.nought K hin fun j hj => by
    by_cases e : j = i
    · subst e
      rw [h.one j hj, hl j hj, k.one j (by omega), K.add_self]
    · rw [h.zero j i hj hi (fun e2 => e e2.symm), hl j hj, k.zero j i (by omega) (by omega) (fun e2 => e e2.symm), K.add_self]
  funext j
  exact K.eq_of_add (congrFun hz j)
end Red
/-- A matrix of r rows has rank p. -/
def HasRank (r : Nat) (M : Nat → Nat → B) (p : Nat) : Prop := ∃ R l, Red p R l ∧ Within p R r M ∧ Within r M p R
theorem rank_mono [DecidableEq B] (K : Laws B) {r s p q : Nat} {M N : Nat → Nat → B} (hw : Within r M s N) (h : HasRank r M p) (k : HasRank s N q) : p ≤ q := by
  obtain ⟨R, l, h1, h2, h3⟩ := h
  obtain ⟨S, m, k1, k2, k3⟩ := k
  exact free_le K (h1.free K) ((h2.trans K hw).trans K k3)
theorem rank_same [DecidableEq B] (K : Laws B) {r s p q : Nat} {M N : Nat → Nat → B} (h1 : Within r M s N) (h2 : Within s N r M) (h : HasRank r M p) (k : HasRank s N q) : p = q :=
  Nat.le_antisymm (rank_mono K h1 h k) (rank_mono K h2 k h)
/-- Rows that s rows make have at most rank s. -/
theorem rank_le [DecidableEq B] (K : Laws B) {r s p : Nat} {M N : Nat → Nat → B} (hw : Within r M s N) (h : HasRank r M p) : p ≤ s := by
  obtain ⟨R, l, h1, h2, _⟩ := h
  exact free_le K (h1.free K) (h2.trans K hw)
theorem rank_le_rows [DecidableEq B] (K : Laws B) {r p : Nat} {M : Nat → Nat → B} (h : HasRank r M p) : p ≤ r := rank_le K (Within.refl K r M) h
theorem free_rank [DecidableEq B] (K : Laws B) {r p : Nat} {M : Nat → Nat → B} (hf : Free r M) (h : HasRank r M p) : p = r := by
  obtain ⟨R, l, h1, h2, h3⟩ := h
  exact Nat.le_antisymm (free_le K (h1.free K) h2) (free_le K hf h3)
/-- Rows beyond whose n columns stands nothing. -/
def Wide (n : Nat) (v : Nat → B) : Prop := ∀ j, n ≤ j → v j = 0
theorem InSpan.wide (K : Laws B) {r n : Nat} {M : Nat → Nat → B} {v : Nat → B} (h : InSpan r M v) (hw : ∀ i, i < r → Wide n (M i)) : Wide n v := by
  obtain ⟨c, rfl⟩ := h
  exact fun j hj => sm_zero K r fun i hi => by rw [hw i hi j hj, K.mul_zero]
theorem Red.lead_lt (K : Laws B) {p n : Nat} {R : Nat → Nat → B} {l : Nat → Nat} (h : Red p R l) (hw : ∀ i, i < p → Wide n (R i)) {i : Nat} (hi : i < p) : l i < n := by
  rcases Nat.lt_or_ge (l i) n with hlt | hge
  · exact hlt
  · exfalso
    have e := hw i hi _ hge
    rw [h.one i hi] at e
    exact K.nought e
theorem Red.lead_le {B : Type} [Zero B] [One B] {p : Nat} {R : Nat → Nat → B} {l : Nat → Nat} (h : Red p R l) {i : Nat} (hi : i < p) : i ≤ l i := by
  induction i with
  | zero => omega
  | succ i ih =>
    have h1 := ih (by omega)
    have h2 := h.inc i (i + 1) (by omega) hi
    omega
theorem Red.lead_top {B : Type} [Zero B] [One B] {p n : Nat} {R : Nat → Nat → B} {l : Nat → Nat} (h : Red p R l) (hn : ∀ i, i < p → l i < n) {i : Nat} (hi : i < p) : l i + (p - i) ≤ n := by
  obtain ⟨d, hd⟩ : ∃ d, p - i = d + 1 := ⟨p - i - 1, by omega⟩
  induction d generalizing i with
  | zero => have := hn i hi; omega
  | succ d ih =>
    have h1 := ih (i := i + 1) (by omega) (by omega)
    have h2 := h.inc i (i + 1) (by omega) (by omega)
    omega
theorem rank_le_cols (K : Laws B) {r p n : Nat} {M : Nat → Nat → B} (hw : ∀ i, i < r → Wide n (M i)) (h : HasRank r M p) : p ≤ n := by
  obtain ⟨R, l, h1, h2, _⟩ := h
  have hR : ∀ i, i < p → Wide n (R i) := fun i hi => (h2 i hi).wide K hw
  rcases Nat.eq_zero_or_pos p with e | e
  · omega
  · have := h1.lead_top (fun i hi => h1.lead_lt K hR hi) (i := 0) e
    omega
/-- A product: the rows that M's rows make of N's. -/
def mulM (n : Nat) (M N : Nat → Nat → B) : Nat → Nat → B := fun i => comb n N (M i)
theorem mul_within (_K : Laws B) (r n : Nat) (M N : Nat → Nat → B) : Within r (mulM n M N) n N := fun i _ => ⟨M i, rfl⟩
theorem comb_comb (K : Laws B) (p n : Nat) (R N : Nat → Nat → B) (c : Nat → B) : comb n N (comb p R c) = comb p (mulM n R N) c := by
  funext j
  show sm n (fun k => sm p (fun a => c a * R a k) * N k j) = sm p fun a => c a * sm n fun k => R a k * N k j
  have e1 : sm n (fun k => sm p (fun a => c a * R a k) * N k j) = sm n fun k => sm p fun a => c a * (R a k * N k j) := sm_congr fun k _ => by
    rw [K.mul_comm, ← sm_mul K]
    exact sm_congr fun a _ => by rw [K.mul_comm, K.mul_assoc]
  rw [e1, sm_swap K]
  exact sm_congr fun a _ => sm_mul K _ _ _
theorem mul_assoc' (K : Laws B) (n m : Nat) (M N O : Nat → Nat → B) : mulM m (mulM n M N) O = mulM n M (mulM m N O) := by
  funext i
  exact comb_comb K n m N O (M i)
/-- The rank of a product is at most each one's. -/
theorem rank_mul_right [DecidableEq B] (K : Laws B) {r n p q : Nat} {M N : Nat → Nat → B} (h : HasRank r (mulM n M N) p) (k : HasRank n N q) : p ≤ q := rank_mono K (mul_within K r n M N) h k
theorem rank_mul_left [DecidableEq B] (K : Laws B) {r n p q : Nat} {M N : Nat → Nat → B} (h : HasRank r (mulM n M N) p) (k : HasRank r M q) : p ≤ q := by
  obtain ⟨R, l, _, _, k3⟩ := k
  refine rank_le K (N := mulM n R N) (fun i hi => ?_) h
  obtain ⟨c, hc⟩ := k3 i hi
  exact ⟨c, by show comb n N (M i) = _; rw [hc, comb_comb K]⟩
/-- The columns as rows. -/
def trM (r : Nat) (M : Nat → Nat → B) : Nat → Nat → B := fun k i => if i < r then M i k else 0
theorem rank_tr_le [DecidableEq B] (K : Laws B) {r n p q : Nat} {M : Nat → Nat → B} (h : HasRank r M p) (k : HasRank n (trM r M) q) : q ≤ p := by
  obtain ⟨R, l, _, _, h3⟩ := h
  have hC : ∃ C : Nat → Nat → B, ∀ i, i < r → M i = comb p R (C i) := by
    refine ⟨fun i => if hi : i < r then Classical.choose (h3 i hi) else fun _ => 0, fun i hi => ?_⟩
    simp only [dif_pos hi]
    exact Classical.choose_spec (h3 i hi)
  obtain ⟨C, hC⟩ := hC
  refine rank_le K (N := fun a i => if i < r then C i a else 0) (fun j _ => ⟨fun a => R a j, funext fun i => ?_⟩) k
  show (if i < r then M i j else 0) = sm p fun a => R a j * if i < r then C i a else 0
  by_cases hi : i < r
  · rw [if_pos hi, hC i hi]
    exact sm_congr fun a _ => by rw [if_pos hi, K.mul_comm]
  · rw [if_neg hi]
    exact (sm_zero K p fun a _ => by rw [if_neg hi, K.mul_zero]).symm
theorem within_congr (K : Laws B) {r : Nat} {M N : Nat → Nat → B} (h : ∀ i, i < r → M i = N i) : Within r M r N := fun i hi => by rw [h i hi]; exact InSpan.row K N hi
/-- A matrix and its transpose have one rank. -/
theorem rank_tr [DecidableEq B] (K : Laws B) {r n p q : Nat} {M : Nat → Nat → B} (hw : ∀ i, i < r → Wide n (M i)) (h : HasRank r M p) (k : HasRank n (trM r M) q) : p = q := by
  refine Nat.le_antisymm ?_ (rank_tr_le K h k)
  have e : ∀ i, i < r → trM n (trM r M) i = M i := fun i hi => funext fun j => by
    show (if j < n then (if i < r then M i j else 0) else 0) = M i j
    rw [if_pos hi]
    by_cases hj : j < n
    · rw [if_pos hj]
    · rw [if_neg hj, hw i hi j (by omega)]
  have h2 : HasRank r (trM n (trM r M)) p := by
    obtain ⟨R, l, h1, h2, h3⟩ := h
    exact ⟨R, l, h1, h2.trans K (within_congr K fun i hi => (e i hi).symm), (within_congr K e).trans K h3⟩
  exact rank_tr_le K k h2
/-- A unit. -/
def unitM : Nat → Nat → B := fun i j => if j = i then 1 else 0
theorem mul_unit (K : Laws B) {n : Nat} {v : Nat → B} (hw : Wide n v) : comb n unitM v = v := by
  funext j
  show sm n (fun i => v i * if j = i then 1 else 0) = v j
  by_cases hj : j < n
  · rw [sm_one K hj fun i _ hne => by rw [if_neg (fun e => hne e.symm), K.mul_zero], if_pos rfl, K.mul_one]
  · rw [hw j (by omega)]
    exact sm_zero K n fun i hi => by rw [if_neg (by omega), K.mul_zero]
theorem unit_mul (K : Laws B) {n i : Nat} (hi : i < n) (N : Nat → Nat → B) : comb n N (unitM i) = N i := by
  funext j
  show sm n (fun k => (if k = i then 1 else 0) * N k j) = N i j
  rw [sm_one K hi fun k _ hne => by rw [if_neg hne, K.zero_mul], if_pos rfl, K.one_mul]
/-- Full rank: each unit is made of the rows. -/
theorem full_units [DecidableEq B] (K : Laws B) {n : Nat} {M : Nat → Nat → B} (hw : ∀ i, i < n → Wide n (M i)) (h : HasRank n M n) : Within n unitM n M := by
  obtain ⟨R, l, h1, h2, _⟩ := h
  have hR : ∀ i, i < n → Wide n (R i) := fun i hi => (h2 i hi).wide K hw
  have hl : ∀ i, i < n → l i = i := fun i hi => by
    have e1 := h1.lead_le hi
    have e2 := h1.lead_top (fun i hi => h1.lead_lt K hR hi) hi
    omega
  have hu : ∀ i, i < n → R i = unitM i := fun i hi => funext fun j => by
    show R i j = if j = i then 1 else 0
    by_cases e : j = i
    · subst e
      rw [if_pos rfl]
      have := h1.one j hi
      rwa [hl j hi] at this
    · rw [if_neg e]
      by_cases hj : j < n
      · have := h1.zero j i hj hi (fun e2 => e e2.symm)
        rwa [hl j hj] at this
      · exact hR i hi j (by omega)
  exact fun i hi => by rw [← hu i hi]; exact h2 i hi
end
end Go.Proofs.YtcjjhblgejkkeaaGreat.Lin
/- Rows of bytes as rows over the field of 256 elements: what the plain theorems of rows say of lists. -/
namespace Go.Proofs.YtcjjhblgejkkeaaGreat.Lin
/-- A number of the field. -/
structure By where
  v : Nat
  h : v < 256
theorem By.ext {a b : By} (h : a.v = b.v) : a = b := by cases a; cases b; cases h; rfl
instance : Add By := ⟨fun a b => ⟨a.v ^^^ b.v, xor_lt a.h b.h⟩⟩
instance : Mul By := ⟨fun a b => ⟨mulN a.v b.v, mulN_lt _ a.h⟩⟩
instance : Zero By := ⟨⟨0, by decide⟩⟩
instance : One By := ⟨⟨1, by decide⟩⟩
instance : DecidableEq By := fun a b => if h : a.v = b.v then isTrue (By.ext h) else isFalse fun e => h (by rw [e])
theorem add_v (a b : By) : (a + b).v = a.v ^^^ b.v := rfl
theorem mul_v (a b : By) : (a * b).v = mulN a.v b.v := rfl
theorem zero_v : (0 : By).v = 0 := rfl
theorem one_v : (1 : By).v = 1 := rfl
theorem laws : Laws By where
  add_comm a b := By.ext (Nat.xor_comm _ _)
  add_assoc a b c := By.ext (Nat.xor_assoc _ _ _)
  add_zero a := By.ext (Nat.xor_zero _)
  add_self a := By.ext (Nat.xor_self _)
  mul_comm a b := By.ext (mul_comm' _ _ a.h b.h)
  mul_assoc a b c := By.ext (Go.Proofs.YtcjjhblgejkkeaaGreat.mul_assoc' _ _ _ a.h b.h c.h)
  one_mul a := By.ext (mul_one_left _ a.h)
  mul_add a b c := By.ext (mul_xor_right _ _ _ a.h b.h c.h)
  mul_zero a := By.ext (mul_zero_right _)
  inv a ha := ⟨⟨invN a.v, invN_lt _⟩, By.ext (by
    have h1 : 1 ≤ a.v := by
      rcases Nat.eq_zero_or_pos a.v with e | e
      · exact absurd (By.ext (b := 0) e) ha
      · exact e
    rw [mul_v, mul_comm' _ _ (invN_lt _) a.h, mul_inv _ a.h h1]; rfl)⟩
  nought h := by have := congrArg By.v h; cases this
/-- A number as one of the field. -/
def byte (x : Nat) : By := ⟨x % 256, Nat.mod_lt _ (by decide)⟩
theorem byte_v {x : Nat} (h : x < 256) : (byte x).v = x := Nat.mod_eq_of_lt h
/-- A list's numbers, noughts behind them. -/
def vec (xs : List Nat) : Nat → By := fun j => byte (xs.getD j 0)
/-- A list of lists as rows. -/
def fn (M : List (List Nat)) : Nat → Nat → By := fun i => vec (M.getD i [])
/-- Rows of n bytes. -/
def RowsOk (n : Nat) (M : List (List Nat)) : Prop := ∀ r ∈ M, r.length = n ∧ AllB r
theorem vec_v {xs : List Nat} (h : AllB xs) (j : Nat) : (vec xs j).v = xs.getD j 0 := byte_v (h.getD j)
theorem vec_wide {xs : List Nat} {n : Nat} (h : xs.length = n) : Wide n (vec xs) := fun j hj => by
  have e : xs.getD j 0 = 0 := by rw [List.getD_eq_getElem?_getD, List.getElem?_eq_none (by omega)]; rfl
  show byte (xs.getD j 0) = 0
  rw [e]; rfl
theorem vec_inj {xs ys : List Nat} (hl : xs.length = ys.length) (hx : AllB xs) (hy : AllB ys) (h : vec xs = vec ys) : xs = ys :=
  list_ext hl fun i _ => by rw [← vec_v hx, ← vec_v hy, h]
theorem RowsOk.at_ {n : Nat} {M : List (List Nat)} (h : RowsOk n M) {i : Nat} (hi : i < M.length) : (M.getD i []).length = n ∧ AllB (M.getD i []) := by
  rw [List.getD_eq_getElem?_getD, List.getElem?_eq_getElem hi]
  exact h _ (List.getElem_mem hi)
theorem RowsOk.wide {n : Nat} {M : List (List Nat)} (h : RowsOk n M) : ∀ i, i < M.length → Wide n (fn M i) := fun _ hi => vec_wide (h.at_ hi).1
/-- One span. -/
def SameSpan (M N : List (List Nat)) : Prop := Within M.length (fn M) N.length (fn N) ∧ Within N.length (fn N) M.length (fn M)
theorem SameSpan.refl (M : List (List Nat)) : SameSpan M M := ⟨Within.refl laws _ _, Within.refl laws _ _⟩
theorem SameSpan.symm {M N : List (List Nat)} (h : SameSpan M N) : SameSpan N M := ⟨h.2, h.1⟩
theorem SameSpan.trans {M N O : List (List Nat)} (h : SameSpan M N) (k : SameSpan N O) : SameSpan M O := ⟨h.1.trans laws k.1, k.2.trans laws h.2⟩
/-- A reduced matrix, as a list. -/
def RedL (n : Nat) (M : List (List Nat)) : Prop := RowsOk n M ∧ ∃ l, Red M.length (fn M) l
/-- ONE FORM: reduced matrices of one span are one list. -/
theorem red_unique {n : Nat} {M N : List (List Nat)} (h : RedL n M) (k : RedL n N) (hs : SameSpan M N) : M = N := by
  obtain ⟨hM, l, h1⟩ := h
  obtain ⟨hN, m, k1⟩ := k
  obtain ⟨hlen, hrows⟩ := h1.unique laws k1 hs.1 hs.2
  apply List.ext_getElem hlen
  intro i i1 i2
  have a := hM.at_ i1
  have b := hN.at_ i2
  have e := vec_inj (a.1.trans b.1.symm) a.2 b.2 (hrows i i1).2
  rw [List.getD_eq_getElem?_getD, List.getElem?_eq_getElem i1, List.getD_eq_getElem?_getD, List.getElem?_eq_getElem i2] at e
  exact e
/-- The rank, told by a reduced list of one span. -/
theorem rank_of {n : Nat} {M R : List (List Nat)} (h : RedL n R) (hs : SameSpan R M) : HasRank M.length (fn M) R.length := by
  obtain ⟨_, l, h1⟩ := h
  exact ⟨fn R, l, h1, hs.1, hs.2⟩
end Go.Proofs.YtcjjhblgejkkeaaGreat.Lin
/- A row laid into a reduced matrix; rows turned without turning the span. -/
namespace Go.Proofs.YtcjjhblgejkkeaaGreat.Lin
section
variable {B : Type} [Add B] [Mul B] [Zero B] [One B]
/-- A row more, at place q. -/
def insM {α : Type} (q : Nat) (M : Nat → α) (w : α) : Nat → α := fun i => if i < q then M i else if i = q then w else M (i - 1)
theorem insM_lt {α : Type} {q i : Nat} {M : Nat → α} {w : α} (h : i < q) : insM q M w i = M i := if_pos h
theorem insM_at {α : Type} {q : Nat} {M : Nat → α} {w : α} : insM q M w q = w := by rw [insM, if_neg (by omega), if_pos rfl]
theorem insM_gt {α : Type} {q i : Nat} {M : Nat → α} {w : α} (h : q < i) : insM q M w i = M (i - 1) := by rw [insM, if_neg (by omega), if_neg (by omega)]
theorem insM_le {α : Type} {q i : Nat} {M : Nat → α} {w : α} (h : q ≤ i) : insM q M w (i + 1) = M i := by rw [insM_gt (by omega)]; rfl
/-- The other rows, cleared at the new row's lead. -/
def clearM (R : Nat → Nat → B) (L : Nat) (w : Nat → B) : Nat → Nat → B := fun k j => R k j + R k L * w j
theorem insert_red (K : Laws B) {r q L : Nat} {R : Nat → Nat → B} {l : Nat → Nat} {w : Nat → B} (h : Red r R l) (hq : q ≤ r) (hlo : ∀ i, i < q → l i < L) (hhi : ∀ i, q ≤ i → i < r → L < l i)
    (hz : ∀ i, i < r → w (l i) = 0) (h1 : w L = 1) (hlow : ∀ j, j < L → w j = 0) : Red (r + 1) (insM q (clearM R L w) w) (insM q l L) := by
  have cl : ∀ i k, i < r → k < r → clearM R L w k (l i) = R k (l i) := fun i k hi hk => by rw [clearM, hz i hi, K.mul_zero, K.add_zero]
  have cL : ∀ k, clearM R L w k L = 0 := fun k => by rw [clearM, h1, K.mul_one, K.add_self]
  have clow : ∀ k j, k < r → j < l k → clearM R L w k j = 0 := fun k j hk hj => by
    rw [clearM, h.low k j hk hj, K.zero_add]
    rcases Nat.lt_or_ge j L with e | e
    · rw [hlow j e, K.mul_zero]
    · rw [h.low k L hk (by omega), K.zero_mul]
  have case_ : ∀ i, i < r + 1 → (i < q ∧ i < r) ∨ i = q ∨ (q < i ∧ i - 1 < r ∧ q ≤ i - 1) := fun i hi => by omega
  refine ⟨fun i j hij hj => ?_, fun i hi => ?_, fun i k hi hk hne => ?_, fun i j hi hj => ?_⟩
  · rcases case_ i (by omega) with ⟨a, a2⟩ | a | ⟨a, a2, a3⟩ <;> rcases case_ j hj with ⟨b, b2⟩ | b | ⟨b, b2, b3⟩
    · rw [insM_lt a, insM_lt b]; exact h.inc i j hij b2
    · subst b; rw [insM_lt a, insM_at]; exact hlo i a
    · rw [insM_lt a, insM_gt b]; exact Nat.lt_trans (hlo i a) (hhi _ b3 b2)
    · omega
    · omega
    · subst a; rw [insM_at, insM_gt b]; exact hhi _ b3 b2
    · omega
    · omega
    · rw [insM_gt a, insM_gt b]; exact h.inc _ _ (by omega) b2
  · rcases case_ i hi with ⟨a, a2⟩ | a | ⟨a, a2, a3⟩
    · rw [insM_lt a, insM_lt a, cl i i a2 a2]; exact h.one i a2
    · subst a; rw [insM_at, insM_at]; exact h1
    · rw [insM_gt a, insM_gt a, cl _ _ a2 a2]; exact h.one _ a2
  · rcases case_ i hi with ⟨a, a2⟩ | a | ⟨a, a2, a3⟩ <;> rcases case_ k hk with ⟨b, b2⟩ | b | ⟨b, b2, b3⟩
    · rw [insM_lt a, insM_lt b, cl i k a2 b2]; exact h.zero i k a2 b2 hne
    · subst b; rw [insM_lt a, insM_at]; exact hz i a2
    · rw [insM_lt a, insM_gt b, cl i _ a2 b2]; exact h.zero i _ a2 b2 (by omega)
    · subst a; rw [insM_at, insM_lt b]; exact cL k
    · omega
    · subst a; rw [insM_at, insM_gt b]; exact cL _
    · rw [insM_gt a, insM_lt b, cl _ k a2 b2]; exact h.zero _ k a2 b2 (by omega)
    · subst b; rw [insM_gt a, insM_at]; exact hz _ a2
    · rw [insM_gt a, insM_gt b, cl _ _ a2 b2]; exact h.zero _ _ a2 b2 (by omega)
  · rcases case_ i hi with ⟨a, a2⟩ | a | ⟨a, a2, a3⟩
    · rw [insM_lt a] at hj
      rw [insM_lt a]; exact clow i j a2 hj
    · subst a
      rw [insM_at] at hj
      rw [insM_at]; exact hlow j hj
    · rw [insM_gt a] at hj
      rw [insM_gt a]; exact clow _ j a2 hj
/-- .. of one span with the rows and the row from which it was made. -/
theorem insert_span (K : Laws B) {r q L : Nat} {R : Nat → Nat → B} {w v c : Nat → B} {a : B} (hq : q ≤ r) (ha : a ≠ 0) (hw : ∀ j, w j = a * (v j + comb r R c j)) :
    Within (r + 1) (insM q (clearM R L w) w) (r + 1) (insM r R v) ∧ Within (r + 1) (insM r R v) (r + 1) (insM q (clearM R L w) w) := by
  have rowR : ∀ i, i < r → InSpan (r + 1) (insM r R v) (R i) := fun i hi => by
    have := InSpan.row K (insM r R v) (show i < r + 1 by omega)
    rwa [insM_lt hi] at this
  have rowV : InSpan (r + 1) (insM r R v) v := by
    have := InSpan.row K (insM r R v) (show r < r + 1 by omega)
    rwa [insM_at] at this
  have hwS : InSpan (r + 1) (insM r R v) w := by
    have e : w = fun j => a * (v j + comb r R c j) := funext hw
    rw [e]
    exact InSpan.mul K a (InSpan.add K rowV (InSpan.trans K ⟨c, rfl⟩ rowR))
  have newW : InSpan (r + 1) (insM q (clearM R L w) w) w := by
    have := InSpan.row K (insM q (clearM R L w) w) (show q < r + 1 by omega)
    rwa [insM_at] at this
  have newC : ∀ i, i < r → InSpan (r + 1) (insM q (clearM R L w) w) (clearM R L w i) := fun i hi => by
    by_cases e : i < q
    · have := InSpan.row K (insM q (clearM R L w) w) (show i < r + 1 by omega)
      rwa [insM_lt e] at this
    · have := InSpan.row K (insM q (clearM R L w) w) (show i + 1 < r + 1 by omega)
      rwa [insM_le (by omega)] at this
  have newR : ∀ i, i < r → InSpan (r + 1) (insM q (clearM R L w) w) (R i) := fun i hi => by
    have e : R i = fun j => clearM R L w i j + R i L * w j := funext fun j => by rw [clearM, K.add_assoc, K.add_self, K.add_zero]
    rw [e]
    exact InSpan.add K (newC i hi) (InSpan.mul K (R i L) newW)
  refine ⟨fun i hi => ?_, fun i hi => ?_⟩
  · by_cases e : i < q
    · rw [insM_lt e]
      exact InSpan.add K (rowR i (by omega)) (InSpan.mul K (R i L) hwS)
    · by_cases e2 : i = q
      · subst e2; rw [insM_at]; exact hwS
      · rw [insM_gt (by omega)]
        exact InSpan.add K (rowR _ (by omega)) (InSpan.mul K (R (i - 1) L) hwS)
  · by_cases e : i < r
    · rw [insM_lt e]; exact newR i e
    · obtain rfl : i = r := by omega
      rw [insM_at]
      obtain ⟨b, hb⟩ := K.inv a ha
      have e : v = fun j => b * w j + comb i R c j := funext fun j => by
        rw [hw j, ← K.mul_assoc, hb, K.one_mul, K.add_assoc, K.add_self, K.add_zero]
      rw [e]
      exact InSpan.add K (InSpan.mul K b newW) (InSpan.trans K ⟨c, rfl⟩ newR)
/-- Rows laid down: what is left of a row has nought at each lead. -/
theorem cleared (K : Laws B) {r : Nat} {R : Nat → Nat → B} {l : Nat → Nat} (h : Red r R l) (v : Nat → B) {i : Nat} (hi : i < r) : v (l i) + comb r R (fun k => v (l k)) (l i) = 0 := by
  rw [h.coef K _ hi, K.add_self]
/-- A row within the span adds nothing to it. -/
theorem within_more (K : Laws B) {r : Nat} {R : Nat → Nat → B} {v : Nat → B} (h : InSpan r R v) : Within (r + 1) (insM r R v) r R ∧ Within r R (r + 1) (insM r R v) := by
  refine ⟨fun i hi => ?_, fun i hi => ?_⟩
  · by_cases e : i < r
    · rw [insM_lt e]; exact InSpan.row K R e
    · obtain rfl : i = r := by omega
      rw [insM_at]; exact h
  · have := InSpan.row K (insM r R v) (show i < r + 1 by omega)
    rwa [insM_lt hi] at this
end
end Go.Proofs.YtcjjhblgejkkeaaGreat.Lin
/- Rows of two lists; how many rows a sum and a meet of spans have together. -/
namespace Go.Proofs.YtcjjhblgejkkeaaGreat.Lin
section
variable {B : Type} [Add B] [Mul B] [Zero B] [One B]
/-- Rows behind rows. -/
def catM {α : Type} (p : Nat) (R S : Nat → α) : Nat → α := fun i => if i < p then R i else S (i - p)
theorem catM_lt {α : Type} {p i : Nat} {R S : Nat → α} (h : i < p) : catM p R S i = R i := if_pos h
theorem catM_ge {α : Type} {p i : Nat} {R S : Nat → α} : catM p R S (p + i) = S i := by rw [catM, if_neg (by omega), Nat.add_sub_cancel_left]
theorem sm_split (K : Laws B) (p q : Nat) (f : Nat → B) : sm (p + q) f = sm p f + sm q fun j => f (p + j) := by
  induction q with
  | zero => exact (K.add_zero _).symm
  | succ q ih => rw [Nat.add_succ, sm, ih, sm, K.add_assoc]
theorem comb_cat (K : Laws B) (p q : Nat) (R S : Nat → Nat → B) (c : Nat → B) : comb (p + q) (catM p R S) c = fun j => comb p R c j + comb q S (fun i => c (p + i)) j := by
  funext j
  show sm (p + q) (fun i => c i * catM p R S i j) = sm p (fun i => c i * R i j) + sm q fun i => c (p + i) * S i j
  rw [sm_split K]
  congr 1
  · exact sm_congr fun i hi => by rw [catM_lt hi]
  · exact sm_congr fun i _ => by rw [catM_ge]
theorem span_cat (K : Laws B) {p q : Nat} {R S : Nat → Nat → B} {v : Nat → B} : InSpan (p + q) (catM p R S) v ↔ ∃ a b, InSpan p R a ∧ InSpan q S b ∧ v = fun j => a j + b j := by
  constructor
  · rintro ⟨c, rfl⟩
    exact ⟨_, _, ⟨c, rfl⟩, ⟨fun i => c (p + i), rfl⟩, comb_cat K p q R S c⟩
  · rintro ⟨a, b, ⟨c, rfl⟩, ⟨d, rfl⟩, rfl⟩
    refine ⟨fun i => if i < p then c i else d (i - p), ?_⟩
    rw [comb_cat K]
    funext j
    congr 1
    · exact sm_congr fun i hi => by dsimp only; rw [if_pos hi]
    · exact sm_congr fun i _ => by dsimp only; rw [if_neg (by omega), Nat.add_sub_cancel_left]
/-- Two rows of n numbers, side by side. -/
def pairV (n : Nat) (u v : Nat → B) : Nat → B := fun j => if j < n then u j else v (j - n)
theorem pair_left {B : Type} {n j : Nat} {u v : Nat → B} (h : j < n) : pairV n u v j = u j := if_pos h
theorem pair_right {B : Type} {n j : Nat} {u v : Nat → B} : pairV n u v (n + j) = v j := by rw [pairV, if_neg (by omega), Nat.add_sub_cancel_left]
theorem pair_add {B : Type} [Add B] (n : Nat) (u v u' v' : Nat → B) : (fun j => pairV n u v j + pairV n u' v' j) = pairV n (fun j => u j + u' j) (fun j => v j + v' j) := by
  funext j
  unfold pairV
  split <;> rfl
theorem comb_pair {B : Type} [Add B] [Mul B] [Zero B] (r n : Nat) (R S : Nat → Nat → B) (c : Nat → B) : comb r (fun i => pairV n (R i) (S i)) c = pairV n (comb r R c) (comb r S c) := by
  funext j
  by_cases h : j < n
  · rw [pair_left h]
    exact sm_congr fun i _ => by dsimp only; rw [pair_left h]
  · obtain ⟨k, rfl⟩ : ∃ k, j = n + k := ⟨j - n, by omega⟩
    rw [pair_right]
    exact sm_congr fun i _ => by dsimp only; rw [pair_right]
theorem pair_inj {B : Type} [Zero B] {n : Nat} {u v u' v' : Nat → B} (hu : Wide n u) (hu' : Wide n u') (h : pairV n u v = pairV n u' v') : u = u' ∧ v = v' := by
  refine ⟨funext fun j => ?_, funext fun j => ?_⟩
  · by_cases hj : j < n
    · have e := congrFun h j
      rwa [pair_left hj, pair_left hj] at e
    · rw [hu j (by omega), hu' j (by omega)]
  · have e := congrFun h (n + j)
    rwa [pair_right, pair_right] at e
theorem span_pair_same {B : Type} [Add B] [Mul B] [Zero B] {p n : Nat} {R : Nat → Nat → B} {v : Nat → B} : InSpan p (fun i => pairV n (R i) (R i)) v ↔ ∃ a, InSpan p R a ∧ v = pairV n a a := by
  constructor
  · rintro ⟨c, rfl⟩; exact ⟨_, ⟨c, rfl⟩, comb_pair _ _ _ _ _⟩
  · rintro ⟨a, ⟨c, rfl⟩, rfl⟩; exact ⟨c, (comb_pair _ _ _ _ _).symm⟩
theorem comb_none (K : Laws B) (r : Nat) (c : Nat → B) : comb r (fun _ _ => 0) c = fun _ => 0 := funext fun _ => sm_zero K r fun _ _ => K.mul_zero _
/-- Both lists of rows, side by side: (a, a) and (b, 0). -/
def sideM (p n : Nat) (R S : Nat → Nat → B) : Nat → Nat → B := catM p (fun i => pairV n (R i) (R i)) (fun i => pairV n (S i) fun _ => 0)
theorem span_side (K : Laws B) {p q n : Nat} {R S : Nat → Nat → B} {v : Nat → B} : InSpan (p + q) (sideM p n R S) v ↔ ∃ a b, InSpan p R a ∧ InSpan q S b ∧ v = pairV n (fun j => a j + b j) a := by
  rw [sideM, span_cat K]
  constructor
  · rintro ⟨x, y, hx, ⟨d, rfl⟩, rfl⟩
    obtain ⟨a, ha, rfl⟩ := span_pair_same.1 hx
    refine ⟨a, comb q S d, ha, ⟨d, rfl⟩, ?_⟩
    rw [comb_pair, comb_none K, pair_add]
    congr 1
    funext j
    exact K.add_zero _
  · rintro ⟨a, b, ha, ⟨d, rfl⟩, rfl⟩
    refine ⟨pairV n a a, comb q (fun i => pairV n (S i) fun _ => 0) d, span_pair_same.2 ⟨a, ha, rfl⟩, ⟨d, rfl⟩, ?_⟩
    rw [comb_pair, comb_none K, pair_add]
    congr 1
    funext j
    exact (K.add_zero _).symm
theorem free_pairs (K : Laws B) {s d n : Nat} {T U M : Nat → Nat → B} (hT : Free s T) (hM : Free d M) (wT : ∀ i, i < s → Wide n (T i)) : Free (s + d) (catM s (fun i => pairV n (T i) (U i)) (fun i => pairV n (fun _ => 0) (M i))) := by
  intro c hc
  have h0 : (fun j => comb (s + d) (catM s (fun i => pairV n (T i) (U i)) (fun i => pairV n (fun _ => 0) (M i))) c j) = fun _ => 0 := funext hc
  rw [comb_cat K, comb_pair, comb_pair, pair_add, comb_none K] at h0
  have hl : ∀ j, comb s T c j = 0 := fun j => by
    by_cases hj : j < n
    · have e := congrFun h0 j
      rw [pair_left hj, K.add_zero] at e
      exact e
    · exact InSpan.wide K ⟨c, rfl⟩ wT j (by omega)
  have hc0 := hT c hl
  have hU : ∀ j, comb s U c j = 0 := fun j => sm_zero K s fun i hi => by rw [hc0 i hi, K.zero_mul]
  have hr : ∀ j, comb d M (fun i => c (s + i)) j = 0 := fun j => by
    have e := congrFun h0 (n + j)
    rw [pair_right, hU, K.zero_add] at e
    exact e
  have hc1 := hM _ hr
  intro i hi
  by_cases e : i < s
  · exact hc0 i e
  · have := hc1 (i - s) (by omega)
    rwa [show s + (i - s) = i by omega] at this
theorem free_side (K : Laws B) {p q n : Nat} {R S : Nat → Nat → B} (hR : Free p R) (hS : Free q S) (wS : ∀ i, i < q → Wide n (S i)) : Free (p + q) (sideM p n R S) := by
  intro c hc
  have h0 : (fun j => comb (p + q) (sideM p n R S) c j) = fun _ => 0 := funext hc
  rw [sideM, comb_cat K, comb_pair, comb_pair, pair_add, comb_none K] at h0
  have hr : ∀ j, comb p R c j = 0 := fun j => by
    have e := congrFun h0 (n + j)
    rw [pair_right, K.add_zero] at e
    exact e
  have hc0 := hR c hr
  have hl : ∀ j, comb q S (fun i => c (p + i)) j = 0 := fun j => by
    by_cases hj : j < n
    · have e := congrFun h0 j
      rw [pair_left hj, hr, K.zero_add] at e
      exact e
    · exact InSpan.wide K ⟨_, rfl⟩ wS j (by omega)
  have hc1 := hS _ hl
  intro i hi
  by_cases e : i < p
  · exact hc0 i e
  · have := hc1 (i - p) (by omega)
    rwa [show p + (i - p) = i by omega] at this
/-- HOW MANY ROWS: a sum's and a meet's together are the two lists' together. -/
theorem dims [DecidableEq B] (K : Laws B) {p q s d n : Nat} {R S T M : Nat → Nat → B} (hR : Free p R) (hS : Free q S) (hT : Free s T) (hM : Free d M)
    (wR : ∀ i, i < p → Wide n (R i)) (wS : ∀ i, i < q → Wide n (S i)) (wT : ∀ i, i < s → Wide n (T i))
    (h1 : Within s T (p + q) (catM p R S)) (h2 : Within p R s T) (h3 : Within q S s T) (hm : ∀ v, InSpan d M v ↔ InSpan p R v ∧ InSpan q S v) : s + d = p + q := by
  have hU : ∃ U : Nat → Nat → B, ∀ i, i < s → InSpan (p + q) (sideM p n R S) (pairV n (T i) (U i)) := by
    have each : ∀ i, i < s → ∃ u, InSpan (p + q) (sideM p n R S) (pairV n (T i) u) := fun i hi => by
      obtain ⟨a, b, ha, hb, e⟩ := (span_cat K).1 (h1 i hi)
      exact ⟨a, (span_side K).2 ⟨a, b, ha, hb, by rw [e]⟩⟩
    refine ⟨fun i => if hi : i < s then Classical.choose (each i hi) else fun _ => 0, fun i hi => ?_⟩
    simp only [dif_pos hi]
    exact Classical.choose_spec (each i hi)
  obtain ⟨U, hU⟩ := hU
  refine Nat.le_antisymm (free_le K (N := sideM p n R S) (free_pairs K (U := U) hT hM wT) fun i hi => ?_) (free_le K (N := catM s (fun i => pairV n (T i) (U i)) (fun i => pairV n (fun _ => 0) (M i))) (free_side K hR hS wS) fun i hi => ?_)
  · by_cases e : i < s
    · rw [catM_lt e]; exact hU i e
    · obtain ⟨k, rfl⟩ : ∃ k, i = s + k := ⟨i - s, by omega⟩
      rw [catM_ge]
      have hk := (hm (M k)).1 (InSpan.row K M (by omega))
      refine (span_side K).2 ⟨M k, M k, hk.1, hk.2, ?_⟩
      congr 1
      funext j
      exact (K.add_self _).symm
  · -- what lies in the one's span, as pairs, lies in the other's
    have key : ∀ u v, InSpan s T u → Wide n u → InSpan (p + q) (sideM p n R S) (pairV n u v) → InSpan (s + d) (catM s (fun i => pairV n (T i) (U i)) (fun i => pairV n (fun _ => 0) (M i))) (pairV n u v) := by
      intro u v hu wu huv
      obtain ⟨e, he⟩ := hu
      have h4 : InSpan (p + q) (sideM p n R S) (pairV n u (comb s U e)) := by
        rw [he, ← comb_pair]
        exact InSpan.trans K ⟨e, rfl⟩ hU
      have h5 := InSpan.add K huv h4
      rw [pair_add] at h5
      obtain ⟨a, b, ha, hb, e2⟩ := (span_side K).1 h5
      have wz : Wide n (fun j => u j + u j) := fun j _ => K.add_self _
      have wab : Wide n (fun j => a j + b j) := fun j hj => by dsimp only; rw [InSpan.wide K ha wR j hj, InSpan.wide K hb wS j hj, K.add_zero]
      obtain ⟨e3, e4⟩ := pair_inj wz wab e2
      have hab : a = b := funext fun j => K.eq_of_add (by have := congrFun e3 j; rw [← this]; exact K.add_self _)
      have hin : InSpan d M a := (hm a).2 ⟨ha, by rw [hab]; exact hb⟩
      obtain ⟨f, hf⟩ := hin
      refine (span_cat K).2 ⟨pairV n u (comb s U e), pairV n (fun _ => 0) a, ⟨e, by rw [comb_pair, ← he]⟩, ⟨f, by rw [comb_pair, comb_none K, ← hf]⟩, ?_⟩
      rw [pair_add]
      congr 1
      · funext j; exact (K.add_zero _).symm
      · funext j
        have := congrFun e4 j
        rw [← this, K.add_comm, K.add_assoc, K.add_self, K.add_zero]
    have hin := InSpan.row K (sideM p n R S) hi
    by_cases e : i < p
    · have er : sideM p n R S i = pairV n (R i) (R i) := by rw [sideM, catM_lt e]
      rw [er] at hin ⊢
      exact key _ _ (h2 i e) (wR i e) hin
    · obtain ⟨k, rfl⟩ : ∃ k, i = p + k := ⟨i - p, by omega⟩
      have er : sideM p n R S (p + k) = pairV n (S k) fun _ => 0 := by rw [sideM, catM_ge]
      rw [er] at hin ⊢
      exact key _ _ (h3 k (by omega)) (wS k (by omega)) hin
end
end Go.Proofs.YtcjjhblgejkkeaaGreat.Lin
/- Rows reduced by columns: what holds between; a row cleared lead by lead; one row more; list forms of the dimension formula. -/
namespace Go.Proofs.YtcjjhblgejkkeaaGreat.Lin
section
variable {B : Type} [Add B] [Mul B] [Zero B] [One B]
/-- A row cleared by the first k rows, one behind the other. -/
def clearSeq (R : Nat → Nat → B) (l : Nat → Nat) (v : Nat → B) : Nat → Nat → B
  | 0 => v
  | k + 1 => fun j => clearSeq R l v k j + clearSeq R l v k (l k) * R k j
theorem clearSeq_eq (K : Laws B) {r : Nat} {R : Nat → Nat → B} {l : Nat → Nat} (h : Red r R l) (v : Nat → B) {k : Nat} (hk : k ≤ r) : clearSeq R l v k = fun j => v j + comb k R (fun i => v (l i)) j := by
  induction k with
  | zero => exact funext fun j => (K.add_zero _).symm
  | succ k ih =>
    have ih := ih (by omega)
    have e : clearSeq R l v k (l k) = v (l k) := by
      rw [ih]
      show v (l k) + sm k (fun i => v (l i) * R i (l k)) = _
      rw [sm_zero K k fun i hi => by rw [h.zero k i (by omega) (by omega) (by omega), K.mul_zero], K.add_zero]
    funext j
    show clearSeq R l v k j + clearSeq R l v k (l k) * R k j = v j + (sm k (fun i => v (l i) * R i j) + v (l k) * R k j)
    rw [e, ih, ← K.add_assoc]
    rfl
/-- Cleared by all rows: nought at each lead. -/
theorem clearSeq_nought (K : Laws B) {r : Nat} {R : Nat → Nat → B} {l : Nat → Nat} (h : Red r R l) (v : Nat → B) {i : Nat} (hi : i < r) : clearSeq R l v r (l i) = 0 := by
  rw [clearSeq_eq K h v (Nat.le_refl r)]; exact cleared K h v hi
/-- Within the span just if nothing is left. -/
theorem clearSeq_span (K : Laws B) {r : Nat} {R : Nat → Nat → B} {l : Nat → Nat} (h : Red r R l) (v : Nat → B) : InSpan r R v ↔ clearSeq R l v r = fun _ => 0 := by
  constructor
  · intro hv
    refine h.nought K ?_ fun i hi => clearSeq_nought K h v hi
    rw [clearSeq_eq K h v (Nat.le_refl r)]
    exact InSpan.add K hv ⟨_, rfl⟩
  · intro e
    rw [clearSeq_eq K h v (Nat.le_refl r)] at e
    exact ⟨_, funext fun j => K.eq_of_add (congrFun e j)⟩
/-- Gauss and Jordan's way, between two columns: m rows, r of them done, col columns gone through. -/
structure Part (m r col : Nat) (R : Nat → Nat → B) (l : Nat → Nat) : Prop where
  le : r ≤ m
  inc : ∀ i j, i < j → j < r → l i < l j
  lt : ∀ i, i < r → l i < col
  one : ∀ i, i < r → R i (l i) = 1
  zero : ∀ i k, i < r → k < m → k ≠ i → R k (l i) = 0
  low : ∀ i j, i < r → j < l i → R i j = 0
  rest : ∀ k j, r ≤ k → k < m → j < col → R k j = 0
namespace Part
variable {m r col : Nat} {R : Nat → Nat → B} {l : Nat → Nat}
theorem start {B : Type} [Zero B] [One B] (m : Nat) (R : Nat → Nat → B) (l : Nat → Nat) : Part m 0 0 R l := ⟨by omega, fun _ _ _ h => by omega, fun _ h => by omega, fun _ h => by omega, fun _ _ h => by omega, fun _ _ h => by omega, fun _ _ _ _ h => by omega⟩
/-- A column with no pivot. -/
theorem skip {B : Type} [Zero B] [One B] {m r col : Nat} {R : Nat → Nat → B} {l : Nat → Nat} (h : Part m r col R l) (hz : ∀ k, r ≤ k → k < m → R k col = 0) : Part m r (col + 1) R l :=
  ⟨h.le, h.inc, fun i hi => Nat.lt_succ_of_lt (h.lt i hi), h.one, h.zero, h.low, fun k j hk hm hj => by
    by_cases e : j = col
    · subst e; exact hz k hk hm
    · exact h.rest k j hk hm (by omega)⟩
/-- Rows that are not done may change places. -/
theorem swap {B : Type} [Zero B] [One B] {m r col : Nat} {R : Nat → Nat → B} {l : Nat → Nat} (h : Part m r col R l) {S : Nat → Nat → B} (hd : ∀ i, i < r → S i = R i) (hs : ∀ k, r ≤ k → k < m → ∃ k', r ≤ k' ∧ k' < m ∧ S k = R k') : Part m r col S l :=
  ⟨h.le, h.inc, h.lt, fun i hi => by rw [hd i hi]; exact h.one i hi, fun i k hi hk hne => by
    by_cases e : k < r
    · rw [hd k e]; exact h.zero i k hi hk hne
    · obtain ⟨k', h1, h2, h3⟩ := hs k (by omega) hk
      rw [h3]; exact h.zero i k' hi h2 (by omega), fun i j hi hj => by rw [hd i hi]; exact h.low i j hi hj, fun k j hk hm hj => by
    obtain ⟨k', h1, h2, h3⟩ := hs k hk hm
    rw [h3]; exact h.rest k' j h1 h2 hj⟩
/-- A row that is not done, times a number. -/
theorem scale (K : Laws B) (h : Part m r col R l) {S : Nat → Nat → B} {a : B} (hr : r < m) (ho : ∀ i, i < m → i ≠ r → S i = R i) (hs : ∀ j, S r j = a * R r j) : Part m r col S l :=
  ⟨h.le, h.inc, h.lt, fun i hi => by rw [ho i (by omega) (by omega)]; exact h.one i hi, fun i k hi hk hne => by
    by_cases e : k = r
    · subst e; rw [hs, h.zero i k hi hk hne, K.mul_zero]
    · rw [ho k hk e]; exact h.zero i k hi hk hne, fun i j hi hj => by rw [ho i (by omega) (by omega)]; exact h.low i j hi hj, fun k j hk hm hj => by
    by_cases e : k = r
    · subst e; rw [hs, h.rest k j hk hm hj, K.mul_zero]
    · rw [ho k hm e]; exact h.rest k j hk hm hj⟩
/-- A pivot row cleared out of all others: one row more is done. -/
theorem clear (K : Laws B) (h : Part m r col R l) {S : Nat → Nat → B} (hr : r < m) (h1 : R r col = 1) (hp : S r = R r) (ho : ∀ k, k < m → k ≠ r → ∀ j, S k j = R k j + R k col * R r j) : Part m (r + 1) (col + 1) S (fun i => if i = r then col else l i) := by
  have low0 : ∀ j, j < col → R r j = 0 := fun j hj => h.rest r j (by omega) hr hj
  have keep : ∀ k j, k < m → j < col → S k j = R k j := fun k j hk hj => by
    by_cases e : k = r
    · subst e; rw [hp]
    · rw [ho k hk e, low0 j hj, K.mul_zero, K.add_zero]
  refine ⟨hr, fun i j hij hj => ?_, fun i hi => ?_, fun i hi => ?_, fun i k hi hk hne => ?_, fun i j hi hj => ?_, fun k j hk hm hj => ?_⟩
  · rw [if_neg (by omega)]
    by_cases e : j = r
    · rw [if_pos e]; exact h.lt i (by omega)
    · rw [if_neg e]; exact h.inc i j hij (by omega)
  · by_cases e : i = r
    · rw [if_pos e]; omega
    · rw [if_neg e]; exact Nat.lt_succ_of_lt (h.lt i (by omega))
  · by_cases e : i = r
    · rw [if_pos e, e, hp]; exact h1
    · rw [if_neg e, keep i _ (by omega) (h.lt i (by omega))]; exact h.one i (by omega)
  · by_cases e : i = r
    · rw [if_pos e, ho k hk (by omega), h1, K.mul_one, K.add_self]
    · rw [if_neg e, keep k _ hk (h.lt i (by omega))]; exact h.zero i k (by omega) hk hne
  · by_cases e : i = r
    · rw [if_pos e] at hj; rw [e, hp]; exact low0 j hj
    · rw [if_neg e] at hj
      have := h.lt i (by omega)
      rw [keep i j (by omega) (by omega)]; exact h.low i j (by omega) hj
  · by_cases e : j = col
    · rw [e, ho k hm (by omega), h1, K.mul_one, K.add_self]
    · rw [keep k j hm (by omega)]; exact h.rest k j (by omega) hm (by omega)
/-- The end: what is done is reduced. -/
theorem red {B : Type} [Zero B] [One B] {m r col : Nat} {R : Nat → Nat → B} {l : Nat → Nat} (h : Part m r col R l) : Red r R l := ⟨h.inc, h.one, fun i k hi hk hne => h.zero i k hi (Nat.lt_of_lt_of_le hk h.le) hne, h.low⟩
/-- .. and all that the rows make: behind it stand noughts. -/
theorem done (K : Laws B) (h : Part m r col R l) {n : Nat} (hw : ∀ i, i < m → Wide n (R i)) (hc : n ≤ col ∨ r = m) : Within m R r R ∧ Within r R m R := by
  refine ⟨fun i hi => ?_, fun i hi => InSpan.row K R (Nat.lt_of_lt_of_le hi h.le)⟩
  by_cases e : i < r
  · exact InSpan.row K R e
  · rcases hc with hc | hc
    · have z : R i = fun _ => 0 := funext fun j => by
        by_cases hj : j < col
        · exact h.rest i j (by omega) hi hj
        · exact hw i hi j (by omega)
      rw [z]; exact InSpan.zero K r R
    · omega
end Part
/-- Rows in other places make the same. -/
theorem span_swap (K : Laws B) {m : Nat} {R S : Nat → Nat → B} (h : ∀ k, k < m → ∃ k', k' < m ∧ S k = R k') : Within m S m R := fun i hi => by
  obtain ⟨k, hk, e⟩ := h i hi
  rw [e]; exact InSpan.row K R hk
/-- A row times what is not nought. -/
theorem span_scale (K : Laws B) {m r : Nat} {R S : Nat → Nat → B} {a : B} (hr : r < m) (ha : a ≠ 0) (ho : ∀ i, i < m → i ≠ r → S i = R i) (hs : ∀ j, S r j = a * R r j) : Within m S m R ∧ Within m R m S := by
  refine ⟨fun i hi => ?_, fun i hi => ?_⟩
  · by_cases e : i = r
    · rw [e, show S r = fun j => a * R r j from funext hs]; exact InSpan.mul K a (InSpan.row K R hr)
    · rw [ho i hi e]; exact InSpan.row K R hi
  · by_cases e : i = r
    · obtain ⟨b, hb⟩ := K.inv a ha
      have e2 : R i = fun j => b * S r j := funext fun j => by rw [hs, ← K.mul_assoc, hb, K.one_mul, e]
      rw [e2]; exact InSpan.mul K b (InSpan.row K S hr)
    · rw [← ho i hi e]; exact InSpan.row K S hi
/-- A row added, some times, to others. -/
theorem span_clear (K : Laws B) {m r : Nat} {R S : Nat → Nat → B} (hr : r < m) (hp : S r = R r) (c : Nat → B) (ho : ∀ k, k < m → k ≠ r → ∀ j, S k j = R k j + c k * R r j) : Within m S m R ∧ Within m R m S := by
  refine ⟨fun i hi => ?_, fun i hi => ?_⟩
  · by_cases e : i = r
    · rw [e, hp]; exact InSpan.row K R hr
    · rw [show S i = fun j => R i j + c i * R r j from funext (ho i hi e)]
      exact InSpan.add K (InSpan.row K R hi) (InSpan.mul K _ (InSpan.row K R hr))
  · by_cases e : i = r
    · rw [e, ← hp]; exact InSpan.row K S hr
    · have e2 : R i = fun j => S i j + c i * S r j := funext fun j => by rw [ho i hi e, hp, K.add_assoc, K.add_self, K.add_zero]
      rw [e2]; exact InSpan.add K (InSpan.row K S hi) (InSpan.mul K _ (InSpan.row K S hr))
/-- A row that the free rows don't make: free with them. -/
theorem free_more [DecidableEq B] (K : Laws B) {p : Nat} {R : Nat → Nat → B} {v : Nat → B} (h : Free p R) (hv : ¬ InSpan p R v) : Free (p + 1) (insM p R v) := by
  intro c hc
  have hs : ∀ j, comb p R c j + c p * v j = 0 := fun j => by
    have e := hc j
    have e2 : comb (p + 1) (insM p R v) c j = comb p R c j + c p * v j := by
      show sm p (fun i => c i * insM p R v i j) + c p * insM p R v p j = sm p (fun i => c i * R i j) + c p * v j
      rw [insM_at]
      congr 1
      exact sm_congr fun i hi => by rw [insM_lt hi]
    rw [e2] at e; exact e
  by_cases e : c p = 0
  · have h0 := h c fun j => by have := hs j; rw [e, K.zero_mul, K.add_zero] at this; exact this
    intro i hi
    by_cases e2 : i = p
    · rw [e2]; exact e
    · exact h0 i (by omega)
  · exfalso
    obtain ⟨b, hb⟩ := K.inv _ e
    refine hv ?_
    have e3 : v = fun j => b * comb p R c j := funext fun j => by
      rw [K.eq_of_add (hs j), ← K.mul_assoc, hb, K.one_mul]
    rw [e3]; exact InSpan.mul K b ⟨c, rfl⟩
theorem within_ins (K : Laws B) {r s : Nat} {M N : Nat → Nat → B} (v : Nat → B) (h : Within r M s N) : Within (r + 1) (insM r M v) (s + 1) (insM s N v) := by
  have hN : Within s N (s + 1) (insM s N v) := fun i hi => by
    have := InSpan.row K (insM s N v) (show i < s + 1 by omega)
    rwa [insM_lt hi] at this
  intro i hi
  by_cases e : i < r
  · rw [insM_lt e]; exact InSpan.trans K (h i e) hN
  · obtain rfl : i = r := by omega
    rw [insM_at]
    have := InSpan.row K (insM s N v) (show s < s + 1 by omega)
    rwa [insM_at] at this
/-- ONE MORE: a row that the rows don't make heightens their rank by one. -/
theorem rank_more [DecidableEq B] (K : Laws B) {r p q : Nat} {M : Nat → Nat → B} {v : Nat → B} (hv : ¬ InSpan r M v) (h : HasRank r M p) (k : HasRank (r + 1) (insM r M v) q) : q = p + 1 := by
  obtain ⟨R, l, h1, h2, h3⟩ := h
  obtain ⟨S, m, k1, k2, k3⟩ := k
  have f := free_more K (h1.free K) fun e => hv (InSpan.trans K e h2)
  exact Nat.le_antisymm (free_le K (k1.free K) (k2.trans K (within_ins K v h3))) (free_le K f ((within_ins K v h2).trans K k3))
end
/-- What lists of bytes make. -/
def Makes (M : List (List Nat)) (v : Nat → By) : Prop := InSpan M.length (fn M) v
theorem fn_append (R S : List (List Nat)) : ∀ i, i < (R ++ S).length → fn (R ++ S) i = catM R.length (fn R) (fn S) i := fun i hi => by
  unfold fn catM
  split
  · next h => rw [List.getD_eq_getElem?_getD, List.getElem?_append_left h, ← List.getD_eq_getElem?_getD]
  · next h => rw [List.getD_eq_getElem?_getD, List.getElem?_append_right (by omega), ← List.getD_eq_getElem?_getD]
theorem makes_append {R S : List (List Nat)} {v : Nat → By} : Makes (R ++ S) v ↔ ∃ a b, Makes R a ∧ Makes S b ∧ v = fun j => a j + b j := by
  show _ ↔ ∃ a b, InSpan R.length (fn R) a ∧ InSpan S.length (fn S) b ∧ v = fun j => a j + b j
  rw [← span_cat laws (p := R.length) (q := S.length) (R := fn R) (S := fn S)]
  unfold Makes
  have h1 : Within (R ++ S).length (fn (R ++ S)) (R ++ S).length (catM R.length (fn R) (fn S)) := within_congr laws (fn_append R S)
  have h2 : Within (R ++ S).length (catM R.length (fn R) (fn S)) (R ++ S).length (fn (R ++ S)) := within_congr laws fun i hi => (fn_append R S i hi).symm
  rw [← List.length_append]
  exact ⟨fun h => InSpan.trans laws h h1, fun h => InSpan.trans laws h h2⟩
/-- Stage 8's formula: reduced lists of two spans, of their sum, of their meet. -/
theorem dimsL {n : Nat} {R S T M : List (List Nat)} (hR : RedL n R) (hS : RedL n S) (hT : RedL n T) (hM : RedL n M)
    (h1 : SameSpan T (R ++ S)) (hm : ∀ v, Makes M v ↔ Makes R v ∧ Makes S v) : T.length + M.length = R.length + S.length := by
  obtain ⟨wR, _, r1⟩ := hR
  obtain ⟨wS, _, s1⟩ := hS
  obtain ⟨wT, _, t1⟩ := hT
  obtain ⟨_, _, m1⟩ := hM
  have cat := within_congr laws (fn_append R S)
  have tac : Within (R ++ S).length (catM R.length (fn R) (fn S)) (R ++ S).length (fn (R ++ S)) := within_congr laws fun i hi => (fn_append R S i hi).symm
  have e := List.length_append (as := R) (bs := S)
  refine dims laws (r1.free laws) (s1.free laws) (t1.free laws) (m1.free laws) wR.wide wS.wide wT.wide ?_ ?_ ?_ hm
  · rw [← e]; exact h1.1.trans laws cat
  · intro i hi
    have hc := InSpan.row laws (catM R.length (fn R) (fn S)) (show i < (R ++ S).length by omega)
    rw [catM_lt hi] at hc
    exact InSpan.trans laws (InSpan.trans laws hc tac) h1.2
  · intro i hi
    have hc := InSpan.row laws (catM R.length (fn R) (fn S)) (show R.length + i < (R ++ S).length by omega)
    rw [catM_ge] at hc
    exact InSpan.trans laws (InSpan.trans laws hc tac) h1.2
end Go.Proofs.YtcjjhblgejkkeaaGreat.Lin
