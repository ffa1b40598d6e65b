/- Rows over a field of characteristic 2, plainly: spans, free rows, reduced matrices (one form of one span), ranks, products, transposes, units (layers 6 to 8). No dump. -/
import Derived.Test.YtifopodnceopjaaGreatDoorQaa
import Derived.Test.YtifopodnceopjaaGreatDoorQab
import Derived.OneCell
import Derived.Test.YtifopodnceopjaaGreatDoorProg
import Derived.WalkKit
import Derived.Lib.Hide
import Derived.Laws.MakeOwn
import Derived.Laws.Rows
import Derived.StillTailTactics
import Derived.OwnWalk
namespace Go.Proofs.YtifopodnceopjaaGreatDoor.Lin
/-- What a field of characteristic 2 keeps. -/
structure Laws (B : Type) [Add B] [Mul B] [Zero B] [One B] : Prop where
  add_comm : ∀ a b : B, a + b = b + a
  add_assoc : ∀ a b c : B, a + b + c = a + (b + c)
  add_zero : ∀ a : B, a + 0 = a
  add_self : ∀ a : B, a + a = 0
  mul_comm : ∀ a b : B, a * b = b * a
  mul_assoc : ∀ a b c : B, a * b * c = a * (b * c)
  one_mul : ∀ a : B, 1 * a = a
  mul_add : ∀ a b c : B, a * (b + c) = a * b + a * c
  mul_zero : ∀ a : B, a * 0 = 0
  inv : ∀ a : B, a ≠ 0 → ∃ b, b * a = 1
  nought : (1 : B) ≠ 0
section
variable {B : Type} [Add B] [Mul B] [Zero B] [One B]
namespace Laws
theorem zero_add (K : Laws B) (a : B) : 0 + a = a := by rw [K.add_comm, K.add_zero]
theorem zero_mul (K : Laws B) (a : B) : 0 * a = 0 := by rw [K.mul_comm, K.mul_zero]
theorem mul_one (K : Laws B) (a : B) : a * 1 = a := by rw [K.mul_comm, K.one_mul]
theorem add_mul (K : Laws B) (a b c : B) : (a + b) * c = a * c + b * c := by rw [K.mul_comm, K.mul_add, K.mul_comm c, K.mul_comm c]
theorem add_left_comm (K : Laws B) (a b c : B) : a + (b + c) = b + (a + c) := by rw [← K.add_assoc, K.add_comm a b, K.add_assoc]
theorem add_add_comm (K : Laws B) (a b c d : B) : a + b + (c + d) = a + c + (b + d) := by rw [K.add_assoc, K.add_left_comm b, ← K.add_assoc]
theorem eq_of_add (K : Laws B) {a b : B} (h : a + b = 0) : a = b := by rw [← K.add_zero a, ← K.add_self b, ← K.add_assoc, h, K.zero_add]
theorem mul_eq_zero (K : Laws B) {a b : B} (h : a * b = 0) (ha : a ≠ 0) : b = 0 := by
  obtain ⟨c, hc⟩ := K.inv a ha
  rw [← K.one_mul b, ← hc, K.mul_assoc, h, K.mul_zero]
end Laws
/-- Sums. -/
def sm : Nat → (Nat → B) → B
  | 0, _ => 0
  | n + 1, f => sm n f + f n
theorem sm_congr {B : Type} [Add B] [Zero B] {n : Nat} {f g : Nat → B} (h : ∀ i, i < n → f i = g i) : sm n f = sm n g := by
  induction n with
  | zero => rfl
  | succ n ih => rw [sm, sm, ih fun i hi => h i (by omega), h n (by omega)]
theorem sm_zero (K : Laws B) (n : Nat) {f : Nat → B} (h : ∀ i, i < n → f i = 0) : sm n f = 0 := by
  induction n with
  | zero => rfl
  | succ n ih => rw [sm, ih fun i hi => h i (by omega), h n (by omega), K.add_zero]
theorem sm_add (K : Laws B) (n : Nat) (f g : Nat → B) : sm n (fun i => f i + g i) = sm n f + sm n g := by
  induction n with
  | zero => exact (K.add_zero 0).symm
  | succ n ih => rw [sm, sm, sm, ih, K.add_add_comm]
theorem sm_mul (K : Laws B) (n : Nat) (a : B) (f : Nat → B) : sm n (fun i => a * f i) = a * sm n f := by
  induction n with
  | zero => exact (K.mul_zero a).symm
  | succ n ih => rw [sm, sm, ih, K.mul_add]
theorem sm_swap (K : Laws B) (n m : Nat) (f : Nat → Nat → B) : sm n (fun i => sm m (f i)) = sm m (fun j => sm n (fun i => f i j)) := by
  induction n with
  | zero => exact (sm_zero K m fun _ _ => rfl).symm
  | succ n ih => rw [sm, ih, ← sm_add K]; rfl
theorem sm_one (K : Laws B) {n k : Nat} (hk : k < n) {f : Nat → B} (h : ∀ i, i < n → i ≠ k → f i = 0) : sm n f = f k := by
  induction n with
  | zero => omega
  | succ n ih =>
    rw [sm]
    by_cases e : k = n
    · subst e
      rw [sm_zero K k fun i hi => h i (by omega) (by omega), K.zero_add]
    · rw [ih (by omega) fun i hi => h i (by omega), h n (by omega) (fun e2 => e e2.symm), K.add_zero]
/-- What r rows, each with its factor, make. -/
def comb (r : Nat) (M : Nat → Nat → B) (c : Nat → B) : Nat → B := fun j => sm r fun i => c i * M i j
def InSpan (r : Nat) (M : Nat → Nat → B) (v : Nat → B) : Prop := ∃ c, v = comb r M c
/-- Each row of the one lies in the other's span. -/
def Within (r : Nat) (M : Nat → Nat → B) (s : Nat) (N : Nat → Nat → B) : Prop := ∀ i, i < r → InSpan s N (M i)
theorem InSpan.add (K : Laws B) {r : Nat} {M : Nat → Nat → B} {u v : Nat → B} (h : InSpan r M u) (k : InSpan r M v) : InSpan r M fun j => u j + v j := by
  obtain ⟨c, rfl⟩ := h
  obtain ⟨d, rfl⟩ := k
  refine ⟨fun i => c i + d i, funext fun j => ?_⟩
  show sm r (fun i => c i * M i j) + sm r (fun i => d i * M i j) = sm r fun i => (c i + d i) * M i j
  rw [← sm_add K]
  exact sm_congr fun i _ => (K.add_mul _ _ _).symm
theorem InSpan.mul (K : Laws B) {r : Nat} {M : Nat → Nat → B} {v : Nat → B} (a : B) (h : InSpan r M v) : InSpan r M fun j => a * v j := by
  obtain ⟨c, rfl⟩ := h
  refine ⟨fun i => a * c i, funext fun j => ?_⟩
  show a * sm r (fun i => c i * M i j) = sm r fun i => a * c i * M i j
  rw [← sm_mul K]
  exact sm_congr fun i _ => (K.mul_assoc _ _ _).symm
theorem InSpan.zero (K : Laws B) (r : Nat) (M : Nat → Nat → B) : InSpan r M fun _ => 0 :=
  ⟨fun _ => 0, funext fun _ => (sm_zero K r fun _ _ => K.zero_mul _).symm⟩
theorem InSpan.row (K : Laws B) {r i : Nat} (M : Nat → Nat → B) (hi : i < r) : InSpan r M (M i) := by
  refine ⟨fun k => if k = i then 1 else 0, funext fun j => ?_⟩
  show M i j = sm r fun k => (if k = i then 1 else 0) * M k j
  rw [sm_one K hi]
  · rw [if_pos rfl, K.one_mul]
  · intro k _ hk
    rw [if_neg hk, K.zero_mul]
theorem InSpan.sum (K : Laws B) {r : Nat} {M : Nat → Nat → B} (n : Nat) (u : Nat → Nat → B) (h : ∀ i, i < n → InSpan r M (u i)) : InSpan r M fun j => sm n fun i => u i j := by
  induction n with
  | zero => exact InSpan.zero K r M
  | succ n ih => exact InSpan.add K (ih fun i hi => h i (by omega)) (h n (by omega))
theorem InSpan.trans (K : Laws B) {r s : Nat} {M N : Nat → Nat → B} {v : Nat → B} (h : InSpan r M v) (k : Within r M s N) : InSpan s N v := by
  obtain ⟨c, rfl⟩ := h
  exact InSpan.sum K r (fun i j => c i * M i j) fun i hi => InSpan.mul K (c i) (k i hi)
theorem Within.refl (K : Laws B) (r : Nat) (M : Nat → Nat → B) : Within r M r M := fun _ hi => InSpan.row K M hi
theorem Within.trans (K : Laws B) {r s t : Nat} {M N O : Nat → Nat → B} (h : Within r M s N) (k : Within s N t O) : Within r M t O := fun i hi => InSpan.trans K (h i hi) k
/-- Rows of which only noughts make noughts. -/
def Free (r : Nat) (M : Nat → Nat → B) : Prop := ∀ c : Nat → B, (∀ j, comb r M c j = 0) → ∀ i, i < r → c i = 0
/-- All places but one. -/
def skip (p i : Nat) : Nat := if i < p then i else i + 1
theorem skip_ne (p i : Nat) : skip p i ≠ p := by unfold skip; split <;> omega
theorem skip_back (p i : Nat) : (if skip p i < p then skip p i else skip p i - 1) = i := by
  by_cases h : i < p
  · have e : skip p i = i := by rw [skip, if_pos h]
    rw [e, if_pos h]
  · have e : skip p i = i + 1 := by rw [skip, if_neg h]
    rw [e, if_neg (by omega)]; omega
theorem skip_lt {p i n : Nat} (hi : i < n) : skip p i < n + 1 := by unfold skip; split <;> omega
theorem sm_skip (K : Laws B) (n p : Nat) (hp : p ≤ n) (f : Nat → B) : sm (n + 1) f = f p + sm n fun i => f (skip p i) := by
  induction n with
  | zero =>
    obtain rfl : p = 0 := by omega
    show 0 + f 0 = f 0 + 0
    rw [K.zero_add, K.add_zero]
  | succ n ih =>
    by_cases e : p = n + 1
    · subst e
      rw [sm, K.add_comm]
      congr 1
      exact sm_congr fun i hi => by rw [skip, if_pos hi]
    · rw [sm, ih (by omega), sm, K.add_assoc, show skip p n = n + 1 by rw [skip, if_neg (by omega)]]
/-- More unknowns than equations: a solution that is not all noughts. -/
theorem kernel [DecidableEq B] (K : Laws B) : ∀ (s r : Nat) (C : Nat → Nat → B), s < r → ∃ d : Nat → B, (∃ i, i < r ∧ d i ≠ 0) ∧ ∀ k, k < s → sm r (fun i => d i * C i k) = 0
  | 0, r, C, h => ⟨fun _ => 1, ⟨0, h, K.nought⟩, fun k hk => by omega⟩
  | s + 1, r, C, h => by
    obtain ⟨n, rfl⟩ : ∃ n, r = n + 1 := ⟨r - 1, by omega⟩
    by_cases hz : ∀ i, i < n + 1 → C i s = 0
    · obtain ⟨d, hd, hk⟩ := kernel K s (n + 1) C (by omega)
      refine ⟨d, hd, fun k hks => ?_⟩
      by_cases e : k = s
      · subst e
        exact sm_zero K _ fun i hi => by rw [hz i hi, K.mul_zero]
      · exact hk k (by omega)
    · obtain ⟨p, hp⟩ := Classical.not_forall.1 hz
      obtain ⟨hpn, hps⟩ := Classical.not_imp.1 hp
      obtain ⟨v, hv⟩ := K.inv _ hps
      obtain ⟨d, ⟨i0, hi0, hd0⟩, hk⟩ := kernel K s n (fun i k => C (skip p i) k + C (skip p i) s * v * C p k) (by omega)
      have hdx : ∀ i, (if skip p i = p then sm n (fun i => d i * (C (skip p i) s * v)) else d (if skip p i < p then skip p i else skip p i - 1)) = d i := fun i => by
        rw [if_neg (skip_ne p i), skip_back]
      have key : ∀ k, sm (n + 1) (fun i => (if i = p then sm n (fun i => d i * (C (skip p i) s * v)) else d (if i < p then i else i - 1)) * C i k) = sm n fun i => d i * (C (skip p i) k + C (skip p i) s * v * C p k) := fun k => by
        rw [sm_skip K n p (by omega), if_pos rfl]
        have e : sm n (fun i => d i * (C (skip p i) k + C (skip p i) s * v * C p k)) = sm n (fun i => d i * C (skip p i) k) + sm n (fun i => d i * (C (skip p i) s * v)) * C p k := by
          rw [K.mul_comm _ (C p k), ← sm_mul K, ← sm_add K]
          exact sm_congr fun i _ => by rw [K.mul_add, K.mul_comm (C p k), K.mul_assoc (d i)]
        rw [e, K.add_comm]
        congr 1
        exact sm_congr fun i _ => by rw [hdx]
      refine ⟨fun i => if i = p then sm n (fun i => d i * (C (skip p i) s * v)) else d (if i < p then i else i - 1), ⟨skip p i0, skip_lt hi0, ?_⟩, fun k hks => ?_⟩
      · show (if skip p i0 = p then _ else _) ≠ 0
        rw [hdx]; exact hd0
      rw [key]
      by_cases e : k = s
      · subst e
        refine sm_zero K _ fun i _ => ?_
        rw [K.mul_assoc (C (skip p i) k), hv, K.mul_one, K.add_self, K.mul_zero]
      · exact hk k (by omega)
/-- Free rows within a span are no more than its rows. -/
theorem free_le [DecidableEq B] (K : Laws B) {r s : Nat} {M N : Nat → Nat → B} (h : Free r M) (k : Within r M s N) : r ≤ s := by
  rcases Nat.lt_or_ge s r with hlt | hge
  · exfalso
    have hC : ∃ C : Nat → Nat → B, ∀ i, i < r → M i = comb s N (C i) := by
      refine ⟨fun i => if hi : i < r then Classical.choose (k i hi) else fun _ => 0, fun i hi => ?_⟩
      simp only [dif_pos hi]
      exact Classical.choose_spec (k i hi)
    obtain ⟨C, hC⟩ := hC
    obtain ⟨d, ⟨i0, hi0, hd0⟩, hd⟩ := kernel K s r C hlt
    refine hd0 (h d (fun j => ?_) i0 hi0)
    have e : comb r M d j = sm s fun k => sm r (fun i => d i * C i k) * N k j := by
      show sm r (fun i => d i * M i j) = _
      have e1 : sm r (fun i => d i * M i j) = sm r fun i => sm s fun k => d i * C i k * N k j := sm_congr fun i hi => by
        rw [hC i hi]
        show d i * sm s (fun k => C i k * N k j) = _
        rw [← sm_mul K]
        exact sm_congr fun k _ => (K.mul_assoc _ _ _).symm
      rw [e1, sm_swap K]
      exact sm_congr fun k _ => by
        rw [K.mul_comm, ← sm_mul K]
        exact sm_congr fun i _ => K.mul_comm _ _
    rw [e]
    exact sm_zero K _ fun k hk => by rw [hd k hk, K.zero_mul]
  · exact hge
/-- A reduced matrix of r rows, its leads. -/
structure Red (r : Nat) (R : Nat → Nat → B) (l : Nat → Nat) : Prop where
  inc : ∀ i j, i < j → j < r → l i < l j
  one : ∀ i, i < r → R i (l i) = 1
  zero : ∀ i k, i < r → k < r → k ≠ i → R k (l i) = 0
  low : ∀ i j, i < r → j < l i → R i j = 0
namespace Red
variable {r s : Nat} {R S : Nat → Nat → B} {l m : Nat → Nat}
theorem coef (K : Laws B) (h : Red r R l) (c : Nat → B) {i : Nat} (hi : i < r) : comb r R c (l i) = c i := by
  show sm r (fun k => c k * R k (l i)) = c i
  rw [sm_one K hi (fun k hk hne => by rw [h.zero i k hi hk hne, K.mul_zero]), h.one i hi, K.mul_one]
theorem free (K : Laws B) (h : Red r R l) : Free r R := fun c hc i hi => by rw [← h.coef K c hi]; exact hc _
/-- What lies in the span and has nought at each lead is nought. -/
theorem nought (K : Laws B) (h : Red r R l) {v : Nat → B} (hv : InSpan r R v) (hz : ∀ i, i < r → v (l i) = 0) : v = fun _ => 0 := by
  obtain ⟨c, rfl⟩ := hv
  have hc : ∀ i, i < r → c i = 0 := fun i hi => by rw [← h.coef K c hi]; exact hz i hi
  exact funext fun j => sm_zero K r fun i hi => by rw [hc i hi, K.zero_mul]
end Red
/-- Rows beyond whose n columns stands nothing. -/
def Wide (n : Nat) (v : Nat → B) : Prop := ∀ j, n ≤ j → v j = 0
theorem InSpan.wide (K : Laws B) {r n : Nat} {M : Nat → Nat → B} {v : Nat → B} (h : InSpan r M v) (hw : ∀ i, i < r → Wide n (M i)) : Wide n v := by
  obtain ⟨c, rfl⟩ := h
  exact fun j hj => sm_zero K r fun i hi => by rw [hw i hi j hj, K.mul_zero]
theorem Red.lead_lt (K : Laws B) {p n : Nat} {R : Nat → Nat → B} {l : Nat → Nat} (h : Red p R l) (hw : ∀ i, i < p → Wide n (R i)) {i : Nat} (hi : i < p) : l i < n := by
  rcases Nat.lt_or_ge (l i) n with hlt | hge
  · exact hlt
  · exfalso
    have e := hw i hi _ hge
    rw [h.one i hi] at e
    exact K.nought e
theorem Red.lead_le {B : Type} [Zero B] [One B] {p : Nat} {R : Nat → Nat → B} {l : Nat → Nat} (h : Red p R l) {i : Nat} (hi : i < p) : i ≤ l i := by
  induction i with
  | zero => omega
  | succ i ih =>
    have h1 := ih (by omega)
    have h2 := h.inc i (i + 1) (by omega) hi
    omega
theorem Red.lead_top {B : Type} [Zero B] [One B] {p n : Nat} {R : Nat → Nat → B} {l : Nat → Nat} (h : Red p R l) (hn : ∀ i, i < p → l i < n) {i : Nat} (hi : i < p) : l i + (p - i) ≤ n := by
  obtain ⟨d, hd⟩ : ∃ d, p - i = d + 1 := ⟨p - i - 1, by omega⟩
  induction d generalizing i with
  | zero => have := hn i hi; omega
  | succ d ih =>
    have h1 := ih (i := i + 1) (by omega) (by omega)
    have h2 := h.inc i (i + 1) (by omega) (by omega)
    omega
/-- A product: the rows that M's rows make of N's. -/
def mulM (n : Nat) (M N : Nat → Nat → B) : Nat → Nat → B := fun i => comb n N (M i)
theorem comb_comb (K : Laws B) (p n : Nat) (R N : Nat → Nat → B) (c : Nat → B) : comb n N (comb p R c) = comb p (mulM n R N) c := by
  funext j
  show sm n (fun k => sm p (fun a => c a * R a k) * N k j) = sm p fun a => c a * sm n fun k => R a k * N k j
  have e1 : sm n (fun k => sm p (fun a => c a * R a k) * N k j) = sm n fun k => sm p fun a => c a * (R a k * N k j) := sm_congr fun k _ => by
    rw [K.mul_comm, ← sm_mul K]
    exact sm_congr fun a _ => by rw [K.mul_comm, K.mul_assoc]
  rw [e1, sm_swap K]
  exact sm_congr fun a _ => sm_mul K _ _ _
theorem mul_assoc' (K : Laws B) (n m : Nat) (M N O : Nat → Nat → B) : mulM m (mulM n M N) O = mulM n M (mulM m N O) := by
  funext i
  exact comb_comb K n m N O (M i)
theorem within_congr (K : Laws B) {r : Nat} {M N : Nat → Nat → B} (h : ∀ i, i < r → M i = N i) : Within r M r N := fun i hi => by rw [h i hi]; exact InSpan.row K N hi
/-- A unit. -/
def unitM : Nat → Nat → B := fun i j => if j = i then 1 else 0
theorem mul_unit (K : Laws B) {n : Nat} {v : Nat → B} (hw : Wide n v) : comb n unitM v = v := by
  funext j
  show sm n (fun i => v i * if j = i then 1 else 0) = v j
  by_cases hj : j < n
  · rw [sm_one K hj fun i _ hne => by rw [if_neg (fun e => hne e.symm), K.mul_zero], if_pos rfl, K.mul_one]
  · rw [hw j (by omega)]
    exact sm_zero K n fun i hi => by rw [if_neg (by omega), K.mul_zero]
theorem unit_mul (K : Laws B) {n i : Nat} (hi : i < n) (N : Nat → Nat → B) : comb n N (unitM i) = N i := by
  funext j
  show sm n (fun k => (if k = i then 1 else 0) * N k j) = N i j
  rw [sm_one K hi fun k _ hne => by rw [if_neg hne, K.zero_mul], if_pos rfl, K.one_mul]
end
end Go.Proofs.YtifopodnceopjaaGreatDoor.Lin
/- Rows of bytes as rows over the field of 256 elements: what the plain theorems of rows say of lists. -/
namespace Go.Proofs.YtifopodnceopjaaGreatDoor.Lin
/-- A number of the field. -/
structure By where
  v : Nat
  h : v < 256
theorem By.ext {a b : By} (h : a.v = b.v) : a = b := by cases a; cases b; cases h; rfl
instance : Add By := ⟨fun a b => ⟨a.v ^^^ b.v, xor_lt a.h b.h⟩⟩
instance : Mul By := ⟨fun a b => ⟨mulN a.v b.v, mulN_lt _ a.h⟩⟩
instance : Zero By := ⟨⟨0, by decide⟩⟩
instance : One By := ⟨⟨1, by decide⟩⟩
instance : DecidableEq By := fun a b => if h : a.v = b.v then isTrue (By.ext h) else isFalse fun e => h (by rw [e])
theorem add_v (a b : By) : (a + b).v = a.v ^^^ b.v := rfl
theorem mul_v (a b : By) : (a * b).v = mulN a.v b.v := rfl
theorem laws : Laws By where
  add_comm a b := By.ext (Nat.xor_comm _ _)
  add_assoc a b c := By.ext (Nat.xor_assoc _ _ _)
  add_zero a := By.ext (Nat.xor_zero _)
  add_self a := By.ext (Nat.xor_self _)
  mul_comm a b := By.ext (mul_comm' _ _ a.h b.h)
  mul_assoc a b c := By.ext (Go.Proofs.YtifopodnceopjaaGreatDoor.mul_assoc' _ _ _ a.h b.h c.h)
  one_mul a := By.ext (mul_one_left _ a.h)
  mul_add a b c := By.ext (mul_xor_right _ _ _ a.h b.h c.h)
  mul_zero a := By.ext (mul_zero_right _)
  inv a ha := ⟨⟨invN a.v, invN_lt _⟩, By.ext (by
    have h1 : 1 ≤ a.v := by
      rcases Nat.eq_zero_or_pos a.v with e | e
      · exact absurd (By.ext (b := 0) e) ha
      · exact e
    rw [mul_v, mul_comm' _ _ (invN_lt _) a.h, mul_inv _ a.h h1]; rfl)⟩
  nought h := by have := congrArg By.v h; cases this
/-- A number as one of the field. -/
def byte (x : Nat) : By := ⟨x % 256, Nat.mod_lt _ (by decide)⟩
theorem byte_v {x : Nat} (h : x < 256) : (byte x).v = x := Nat.mod_eq_of_lt h
/-- A list's numbers, noughts behind them. -/
def vec (xs : List Nat) : Nat → By := fun j => byte (xs.getD j 0)
/-- A list of lists as rows. -/
def fn (M : List (List Nat)) : Nat → Nat → By := fun i => vec (M.getD i [])
/-- Rows of n bytes. -/
def RowsOk (n : Nat) (M : List (List Nat)) : Prop := ∀ r ∈ M, r.length = n ∧ AllB r
theorem vec_v {xs : List Nat} (h : AllB xs) (j : Nat) : (vec xs j).v = xs.getD j 0 := byte_v (h.getD j)
theorem vec_wide {xs : List Nat} {n : Nat} (h : xs.length = n) : Wide n (vec xs) := fun j hj => by
  have e : xs.getD j 0 = 0 := by rw [List.getD_eq_getElem?_getD, List.getElem?_eq_none (by omega)]; rfl
  show byte (xs.getD j 0) = 0
  rw [e]; rfl
theorem vec_inj {xs ys : List Nat} (hl : xs.length = ys.length) (hx : AllB xs) (hy : AllB ys) (h : vec xs = vec ys) : xs = ys :=
  list_ext hl fun i _ => by rw [← vec_v hx, ← vec_v hy, h]
theorem RowsOk.at_ {n : Nat} {M : List (List Nat)} (h : RowsOk n M) {i : Nat} (hi : i < M.length) : (M.getD i []).length = n ∧ AllB (M.getD i []) := by
  rw [List.getD_eq_getElem?_getD, List.getElem?_eq_getElem hi]
  exact h _ (List.getElem_mem hi)
theorem RowsOk.wide {n : Nat} {M : List (List Nat)} (h : RowsOk n M) : ∀ i, i < M.length → Wide n (fn M i) := fun _ hi => vec_wide (h.at_ hi).1
/-- One span. -/
def SameSpan (M N : List (List Nat)) : Prop := Within M.length (fn M) N.length (fn N) ∧ Within N.length (fn N) M.length (fn M)
theorem SameSpan.refl (M : List (List Nat)) : SameSpan M M := ⟨Within.refl laws _ _, Within.refl laws _ _⟩
theorem SameSpan.symm {M N : List (List Nat)} (h : SameSpan M N) : SameSpan N M := ⟨h.2, h.1⟩
theorem SameSpan.trans {M N O : List (List Nat)} (h : SameSpan M N) (k : SameSpan N O) : SameSpan M O := ⟨h.1.trans laws k.1, k.2.trans laws h.2⟩
/-- A reduced matrix, as a list. -/
def RedL (n : Nat) (M : List (List Nat)) : Prop := RowsOk n M ∧ ∃ l, Red M.length (fn M) l
end Go.Proofs.YtifopodnceopjaaGreatDoor.Lin
/- A row laid into a reduced matrix; rows turned without turning the span. -/
namespace Go.Proofs.YtifopodnceopjaaGreatDoor.Lin
section
variable {B : Type} [Add B] [Mul B] [Zero B] [One B]
/-- A row more, at place q. -/
def insM {α : Type} (q : Nat) (M : Nat → α) (w : α) : Nat → α := fun i => if i < q then M i else if i = q then w else M (i - 1)
theorem insM_lt {α : Type} {q i : Nat} {M : Nat → α} {w : α} (h : i < q) : insM q M w i = M i := if_pos h
theorem insM_at {α : Type} {q : Nat} {M : Nat → α} {w : α} : insM q M w q = w := by rw [insM, if_neg (by omega), if_pos rfl]
theorem insM_gt {α : Type} {q i : Nat} {M : Nat → α} {w : α} (h : q < i) : insM q M w i = M (i - 1) := by rw [insM, if_neg (by omega), if_neg (by omega)]
theorem insM_le {α : Type} {q i : Nat} {M : Nat → α} {w : α} (h : q ≤ i) : insM q M w (i + 1) = M i := by rw [insM_gt (by omega)]; rfl
/-- The other rows, cleared at the new row's lead. -/
def clearM (R : Nat → Nat → B) (L : Nat) (w : Nat → B) : Nat → Nat → B := fun k j => R k j + R k L * w j
theorem insert_red (K : Laws B) {r q L : Nat} {R : Nat → Nat → B} {l : Nat → Nat} {w : Nat → B} (h : Red r R l) (hq : q ≤ r) (hlo : ∀ i, i < q → l i < L) (hhi : ∀ i, q ≤ i → i < r → L < l i)
    (hz : ∀ i, i < r → w (l i) = 0) (h1 : w L = 1) (hlow : ∀ j, j < L → w j = 0) : Red (r + 1) (insM q (clearM R L w) w) (insM q l L) := by
  have cl : ∀ i k, i < r → k < r → clearM R L w k (l i) = R k (l i) := fun i k hi hk => by rw [clearM, hz i hi, K.mul_zero, K.add_zero]
  have cL : ∀ k, clearM R L w k L = 0 := fun k => by rw [clearM, h1, K.mul_one, K.add_self]
  have clow : ∀ k j, k < r → j < l k → clearM R L w k j = 0 := fun k j hk hj => by
    rw [clearM, h.low k j hk hj, K.zero_add]
    rcases Nat.lt_or_ge j L with e | e
    · rw [hlow j e, K.mul_zero]
    · rw [h.low k L hk (by omega), K.zero_mul]
  have case_ : ∀ i, i < r + 1 → (i < q ∧ i < r) ∨ i = q ∨ (q < i ∧ i - 1 < r ∧ q ≤ i - 1) := fun i hi => by omega
  refine ⟨fun i j hij hj => ?_, fun i hi => ?_, fun i k hi hk hne => ?_, fun i j hi hj => ?_⟩
  · rcases case_ i (by omega) with ⟨a, a2⟩ | a | ⟨a, a2, a3⟩ <;> rcases case_ j hj with ⟨b, b2⟩ | b | ⟨b, b2, b3⟩
    · rw [insM_lt a, insM_lt b]; exact h.inc i j hij b2
    · subst b; rw [insM_lt a, insM_at]; exact hlo i a
    · rw [insM_lt a, insM_gt b]; exact Nat.lt_trans (hlo i a) (hhi _ b3 b2)
    · omega
    · omega
    · subst a; rw [insM_at, insM_gt b]; exact hhi _ b3 b2
    · omega
    · omega
    · rw [insM_gt a, insM_gt b]; exact h.inc _ _ (by omega) b2
  · rcases case_ i hi with ⟨a, a2⟩ | a | ⟨a, a2, a3⟩
    · rw [insM_lt a, insM_lt a, cl i i a2 a2]; exact h.one i a2
    · subst a; rw [insM_at, insM_at]; exact h1
    · rw [insM_gt a, insM_gt a, cl _ _ a2 a2]; exact h.one _ a2
  · rcases case_ i hi with ⟨a, a2⟩ | a | ⟨a, a2, a3⟩ <;> rcases case_ k hk with ⟨b, b2⟩ | b | ⟨b, b2, b3⟩
    · rw [insM_lt a, insM_lt b, cl i k a2 b2]; exact h.zero i k a2 b2 hne
    · subst b; rw [insM_lt a, insM_at]; exact hz i a2
    · rw [insM_lt a, insM_gt b, cl i _ a2 b2]; exact h.zero i _ a2 b2 (by omega)
    · subst a; rw [insM_at, insM_lt b]; exact cL k
    · omega
    · subst a; rw [insM_at, insM_gt b]; exact cL _
    · rw [insM_gt a, insM_lt b, cl _ k a2 b2]; exact h.zero _ k a2 b2 (by omega)
    · subst b; rw [insM_gt a, insM_at]; exact hz _ a2
    · rw [insM_gt a, insM_gt b, cl _ _ a2 b2]; exact h.zero _ _ a2 b2 (by omega)
  · rcases case_ i hi with ⟨a, a2⟩ | a | ⟨a, a2, a3⟩
    · rw [insM_lt a] at hj
      rw [insM_lt a]; exact clow i j a2 hj
    · subst a
      rw [insM_at] at hj
      rw [insM_at]; exact hlow j hj
    · rw [insM_gt a] at hj
      rw [insM_gt a]; exact clow _ j a2 hj
/-- .. of one span with the rows and the row from which it was made. -/
theorem insert_span (K : Laws B) {r q L : Nat} {R : Nat → Nat → B} {w v c : Nat → B} {a : B} (hq : q ≤ r) (ha : a ≠ 0) (hw : ∀ j, w j = a * (v j + comb r R c j)) :
    Within (r + 1) (insM q (clearM R L w) w) (r + 1) (insM r R v) ∧ Within (r + 1) (insM r R v) (r + 1) (insM q (clearM R L w) w) := by
  have rowR : ∀ i, i < r → InSpan (r + 1) (insM r R v) (R i) := fun i hi => by
    have := InSpan.row K (insM r R v) (show i < r + 1 by omega)
    rwa [insM_lt hi] at this
  have rowV : InSpan (r + 1) (insM r R v) v := by
    have := InSpan.row K (insM r R v) (show r < r + 1 by omega)
    rwa [insM_at] at this
  have hwS : InSpan (r + 1) (insM r R v) w := by
    have e : w = fun j => a * (v j + comb r R c j) := funext hw
    rw [e]
    exact InSpan.mul K a (InSpan.add K rowV (InSpan.trans K ⟨c, rfl⟩ rowR))
  have newW : InSpan (r + 1) (insM q (clearM R L w) w) w := by
    have := InSpan.row K (insM q (clearM R L w) w) (show q < r + 1 by omega)
    rwa [insM_at] at this
  have newC : ∀ i, i < r → InSpan (r + 1) (insM q (clearM R L w) w) (clearM R L w i) := fun i hi => by
    by_cases e : i < q
    · have := InSpan.row K (insM q (clearM R L w) w) (show i < r + 1 by omega)
      rwa [insM_lt e] at this
    · have := InSpan.row K (insM q (clearM R L w) w) (show i + 1 < r + 1 by omega)
      rwa [insM_le (by omega)] at this
  have newR : ∀ i, i < r → InSpan (r + 1) (insM q (clearM R L w) w) (R i) := fun i hi => by
    have e : R i = fun j => clearM R L w i j + R i L * w j := funext fun j => by rw [clearM, K.add_assoc, K.add_self, K.add_zero]
    rw [e]
    exact InSpan.add K (newC i hi) (InSpan.mul K (R i L) newW)
  refine ⟨fun i hi => ?_, fun i hi => ?_⟩
  · by_cases e : i < q
    · rw [insM_lt e]
      exact InSpan.add K (rowR i (by omega)) (InSpan.mul K (R i L) hwS)
    · by_cases e2 : i = q
      · subst e2; rw [insM_at]; exact hwS
      · rw [insM_gt (by omega)]
        exact InSpan.add K (rowR _ (by omega)) (InSpan.mul K (R (i - 1) L) hwS)
  · by_cases e : i < r
    · rw [insM_lt e]; exact newR i e
    · obtain rfl : i = r := by omega
      rw [insM_at]
      obtain ⟨b, hb⟩ := K.inv a ha
      have e : v = fun j => b * w j + comb i R c j := funext fun j => by
        rw [hw j, ← K.mul_assoc, hb, K.one_mul, K.add_assoc, K.add_self, K.add_zero]
      rw [e]
      exact InSpan.add K (InSpan.mul K b newW) (InSpan.trans K ⟨c, rfl⟩ newR)
/-- Rows laid down: what is left of a row has nought at each lead. -/
theorem cleared (K : Laws B) {r : Nat} {R : Nat → Nat → B} {l : Nat → Nat} (h : Red r R l) (v : Nat → B) {i : Nat} (hi : i < r) : v (l i) + comb r R (fun k => v (l k)) (l i) = 0 := by
  rw [h.coef K _ hi, K.add_self]
/-- A row within the span adds nothing to it. -/
theorem within_more (K : Laws B) {r : Nat} {R : Nat → Nat → B} {v : Nat → B} (h : InSpan r R v) : Within (r + 1) (insM r R v) r R ∧ Within r R (r + 1) (insM r R v) := by
  refine ⟨fun i hi => ?_, fun i hi => ?_⟩
  · by_cases e : i < r
    · rw [insM_lt e]; exact InSpan.row K R e
    · obtain rfl : i = r := by omega
      rw [insM_at]; exact h
  · have := InSpan.row K (insM r R v) (show i < r + 1 by omega)
    rwa [insM_lt hi] at this
end
end Go.Proofs.YtifopodnceopjaaGreatDoor.Lin
/- Rows of two lists; how many rows a sum and a meet of spans have together. -/
namespace Go.Proofs.YtifopodnceopjaaGreatDoor.Lin
section
variable {B : Type} [Add B] [Mul B] [Zero B] [One B]
/-- Rows behind rows. -/
def catM {α : Type} (p : Nat) (R S : Nat → α) : Nat → α := fun i => if i < p then R i else S (i - p)
theorem catM_lt {α : Type} {p i : Nat} {R S : Nat → α} (h : i < p) : catM p R S i = R i := if_pos h
theorem catM_ge {α : Type} {p i : Nat} {R S : Nat → α} : catM p R S (p + i) = S i := by rw [catM, if_neg (by omega), Nat.add_sub_cancel_left]
theorem sm_split (K : Laws B) (p q : Nat) (f : Nat → B) : sm (p + q) f = sm p f + sm q fun j => f (p + j) := by
  induction q with
  | zero => exact (K.add_zero _).symm
  | succ q ih => rw [Nat.add_succ, sm, ih, sm, K.add_assoc]
theorem comb_cat (K : Laws B) (p q : Nat) (R S : Nat → Nat → B) (c : Nat → B) : comb (p + q) (catM p R S) c = fun j => comb p R c j + comb q S (fun i => c (p + i)) j := by
  funext j
  show sm (p + q) (fun i => c i * catM p R S i j) = sm p (fun i => c i * R i j) + sm q fun i => c (p + i) * S i j
  rw [sm_split K]
  congr 1
  · exact sm_congr fun i hi => by rw [catM_lt hi]
  · exact sm_congr fun i _ => by rw [catM_ge]
theorem span_cat (K : Laws B) {p q : Nat} {R S : Nat → Nat → B} {v : Nat → B} : InSpan (p + q) (catM p R S) v ↔ ∃ a b, InSpan p R a ∧ InSpan q S b ∧ v = fun j => a j + b j := by
  constructor
  · rintro ⟨c, rfl⟩
    exact ⟨_, _, ⟨c, rfl⟩, ⟨fun i => c (p + i), rfl⟩, comb_cat K p q R S c⟩
  · rintro ⟨a, b, ⟨c, rfl⟩, ⟨d, rfl⟩, rfl⟩
    refine ⟨fun i => if i < p then c i else d (i - p), ?_⟩
    rw [comb_cat K]
    funext j
    congr 1
    · exact sm_congr fun i hi => by dsimp only; rw [if_pos hi]
    · exact sm_congr fun i _ => by dsimp only; rw [if_neg (by omega), Nat.add_sub_cancel_left]
/-- Two rows of n numbers, side by side. -/
def pairV (n : Nat) (u v : Nat → B) : Nat → B := fun j => if j < n then u j else v (j - n)
theorem pair_left {B : Type} {n j : Nat} {u v : Nat → B} (h : j < n) : pairV n u v j = u j := if_pos h
theorem pair_right {B : Type} {n j : Nat} {u v : Nat → B} : pairV n u v (n + j) = v j := by rw [pairV, if_neg (by omega), Nat.add_sub_cancel_left]
theorem comb_pair {B : Type} [Add B] [Mul B] [Zero B] (r n : Nat) (R S : Nat → Nat → B) (c : Nat → B) : comb r (fun i => pairV n (R i) (S i)) c = pairV n (comb r R c) (comb r S c) := by
  funext j
  by_cases h : j < n
  · rw [pair_left h]
    exact sm_congr fun i _ => by dsimp only; rw [pair_left h]
  · obtain ⟨k, rfl⟩ : ∃ k, j = n + k := ⟨j - n, by omega⟩
    rw [pair_right]
    exact sm_congr fun i _ => by dsimp only; rw [pair_right]
end
end Go.Proofs.YtifopodnceopjaaGreatDoor.Lin
/- Rows reduced by columns: what holds between; a row cleared lead by lead; one row more; list forms of the dimension formula. -/
namespace Go.Proofs.YtifopodnceopjaaGreatDoor.Lin
section
variable {B : Type} [Add B] [Mul B] [Zero B] [One B]
/-- A row cleared by the first k rows, one behind the other. -/
def clearSeq (R : Nat → Nat → B) (l : Nat → Nat) (v : Nat → B) : Nat → Nat → B
  | 0 => v
  | k + 1 => fun j => clearSeq R l v k j + clearSeq R l v k (l k) * R k j
theorem clearSeq_eq (K : Laws B) {r : Nat} {R : Nat → Nat → B} {l : Nat → Nat} (h : Red r R l) (v : Nat → B) {k : Nat} (hk : k ≤ r) : clearSeq R l v k = fun j => v j + comb k R (fun i => v (l i)) j := by
  induction k with
  | zero => exact funext fun j => (K.add_zero _).symm
  | succ k ih =>
    have ih := ih (by omega)
    have e : clearSeq R l v k (l k) = v (l k) := by
      rw [ih]
      show v (l k) + sm k (fun i => v (l i) * R i (l k)) = _
      rw [sm_zero K k fun i hi => by rw [h.zero k i (by omega) (by omega) (by omega), K.mul_zero], K.add_zero]
    funext j
    show clearSeq R l v k j + clearSeq R l v k (l k) * R k j = v j + (sm k (fun i => v (l i) * R i j) + v (l k) * R k j)
    rw [e, ih, ← K.add_assoc]
    rfl
/-- Cleared by all rows: nought at each lead. -/
theorem clearSeq_nought (K : Laws B) {r : Nat} {R : Nat → Nat → B} {l : Nat → Nat} (h : Red r R l) (v : Nat → B) {i : Nat} (hi : i < r) : clearSeq R l v r (l i) = 0 := by
  rw [clearSeq_eq K h v (Nat.le_refl r)]; exact cleared K h v hi
/-- Within the span just if nothing is left. -/
theorem clearSeq_span (K : Laws B) {r : Nat} {R : Nat → Nat → B} {l : Nat → Nat} (h : Red r R l) (v : Nat → B) : InSpan r R v ↔ clearSeq R l v r = fun _ => 0 := by
  constructor
  · intro hv
    refine h.nought K ?_ fun i hi => clearSeq_nought K h v hi
    rw [clearSeq_eq K h v (Nat.le_refl r)]
    exact InSpan.add K hv ⟨_, rfl⟩
  · intro e
    rw [clearSeq_eq K h v (Nat.le_refl r)] at e
    exact ⟨_, funext fun j => K.eq_of_add (congrFun e j)⟩
/-- Gauss and Jordan's way, between two columns: m rows, r of them done, col columns gone through. -/
structure Part (m r col : Nat) (R : Nat → Nat → B) (l : Nat → Nat) : Prop where
  le : r ≤ m
  inc : ∀ i j, i < j → j < r → l i < l j
  lt : ∀ i, i < r → l i < col
  one : ∀ i, i < r → R i (l i) = 1
  zero : ∀ i k, i < r → k < m → k ≠ i → R k (l i) = 0
  low : ∀ i j, i < r → j < l i → R i j = 0
  rest : ∀ k j, r ≤ k → k < m → j < col → R k j = 0
namespace Part
variable {m r col : Nat} {R : Nat → Nat → B} {l : Nat → Nat}
theorem start {B : Type} [Zero B] [One B] (m : Nat) (R : Nat → Nat → B) (l : Nat → Nat) : Part m 0 0 R l := ⟨by omega, fun _ _ _ h => by omega, fun _ h => by omega, fun _ h => by omega, fun _ _ h => by omega, fun _ _ h => by omega, fun _ _ _ _ h => by omega⟩
/-- A column with no pivot. -/
theorem skip {B : Type} [Zero B] [One B] {m r col : Nat} {R : Nat → Nat → B} {l : Nat → Nat} (h : Part m r col R l) (hz : ∀ k, r ≤ k → k < m → R k col = 0) : Part m r (col + 1) R l :=
  ⟨h.le, h.inc, fun i hi => Nat.lt_succ_of_lt (h.lt i hi), h.one, h.zero, h.low, fun k j hk hm hj => by
    by_cases e : j = col
    · subst e; exact hz k hk hm
    · exact h.rest k j hk hm (by omega)⟩
/-- A pivot row cleared out of all others: one row more is done. -/
theorem clear (K : Laws B) (h : Part m r col R l) {S : Nat → Nat → B} (hr : r < m) (h1 : R r col = 1) (hp : S r = R r) (ho : ∀ k, k < m → k ≠ r → ∀ j, S k j = R k j + R k col * R r j) : Part m (r + 1) (col + 1) S (fun i => if i = r then col else l i) := by
  have low0 : ∀ j, j < col → R r j = 0 := fun j hj => h.rest r j (by omega) hr hj
  have keep : ∀ k j, k < m → j < col → S k j = R k j := fun k j hk hj => by
    by_cases e : k = r
    · subst e; rw [hp]
    · rw [ho k hk e, low0 j hj, K.mul_zero, K.add_zero]
  refine ⟨hr, fun i j hij hj => ?_, fun i hi => ?_, fun i hi => ?_, fun i k hi hk hne => ?_, fun i j hi hj => ?_, fun k j hk hm hj => ?_⟩
  · rw [if_neg (by omega)]
    by_cases e : j = r
    · rw [if_pos e]; exact h.lt i (by omega)
    · rw [if_neg e]; exact h.inc i j hij (by omega)
  · by_cases e : i = r
    · rw [if_pos e]; omega
    · rw [if_neg e]; exact Nat.lt_succ_of_lt (h.lt i (by omega))
  · by_cases e : i = r
    · rw [if_pos e, e, hp]; exact h1
    · rw [if_neg e, keep i _ (by omega) (h.lt i (by omega))]; exact h.one i (by omega)
  · by_cases e : i = r
    · rw [if_pos e, ho k hk (by omega), h1, K.mul_one, K.add_self]
    · rw [if_neg e, keep k _ hk (h.lt i (by omega))]; exact h.zero i k (by omega) hk hne
  · by_cases e : i = r
    · rw [if_pos e] at hj; rw [e, hp]; exact low0 j hj
    · rw [if_neg e] at hj
      have := h.lt i (by omega)
      rw [keep i j (by omega) (by omega)]; exact h.low i j (by omega) hj
  · by_cases e : j = col
    · rw [e, ho k hm (by omega), h1, K.mul_one, K.add_self]
    · rw [keep k j hm (by omega)]; exact h.rest k j (by omega) hm (by omega)
/-- The end: what is done is reduced. -/
theorem red {B : Type} [Zero B] [One B] {m r col : Nat} {R : Nat → Nat → B} {l : Nat → Nat} (h : Part m r col R l) : Red r R l := ⟨h.inc, h.one, fun i k hi hk hne => h.zero i k hi (Nat.lt_of_lt_of_le hk h.le) hne, h.low⟩
end Part
end
/-- What lists of bytes make. -/
def Makes (M : List (List Nat)) (v : Nat → By) : Prop := InSpan M.length (fn M) v
theorem fn_append (R S : List (List Nat)) : ∀ i, i < (R ++ S).length → fn (R ++ S) i = catM R.length (fn R) (fn S) i := fun i hi => by
  unfold fn catM
  split
  · next h => rw [List.getD_eq_getElem?_getD, List.getElem?_append_left h, ← List.getD_eq_getElem?_getD]
  · next h => rw [List.getD_eq_getElem?_getD, List.getElem?_append_right (by omega), ← List.getD_eq_getElem?_getD]
theorem makes_append {R S : List (List Nat)} {v : Nat → By} : Makes (R ++ S) v ↔ ∃ a b, Makes R a ∧ Makes S b ∧ v = fun j => a j + b j := by
  show _ ↔ ∃ a b, InSpan R.length (fn R) a ∧ InSpan S.length (fn S) b ∧ v = fun j => a j + b j
  rw [← span_cat laws (p := R.length) (q := S.length) (R := fn R) (S := fn S)]
  unfold Makes
  have h1 : Within (R ++ S).length (fn (R ++ S)) (R ++ S).length (catM R.length (fn R) (fn S)) := within_congr laws (fn_append R S)
  have h2 : Within (R ++ S).length (catM R.length (fn R) (fn S)) (R ++ S).length (fn (R ++ S)) := within_congr laws fun i hi => (fn_append R S i hi).symm
  rw [← List.length_append]
  exact ⟨fun h => InSpan.trans laws h h1, fun h => InSpan.trans laws h h2⟩
end Go.Proofs.YtifopodnceopjaaGreatDoor.Lin
/- A row put into a reduced matrix: it is reduced, and spans what both span. -/
namespace Go.Proofs.YtifopodnceopjaaGreatDoor
open Lin
/-- The lead that a reduced matrix's row has. -/
theorem red_lead {nc : Nat} {M : List (List Nat)} {l : Nat → Nat} (hM : RowsOk nc M) (hr : Red M.length (fn M) l) {k : Nat} (hk : k < M.length) : vLead nc (M.getD k []) = (l k : Int) ∧ l k < nc := by
  have hw := hM.at_ hk
  have hl : l k < nc := hr.lead_lt laws hM.wide hk
  have h1 : (M.getD k []).getD (l k) 0 = 1 := by
    have := congrArg By.v (hr.one k hk)
    rw [show (fn M k (l k)).v = (M.getD k []).getD (l k) 0 from vec_v hw.2 _] at this
    exact this
  have h0 : ∀ j, j < l k → (M.getD k []).getD j 0 = 0 := fun j hj => by
    have := congrArg By.v (hr.low k j hk hj)
    rw [show (fn M k j).v = (M.getD k []).getD j 0 from vec_v hw.2 _] at this
    exact this
  have e : vLeadTo (M.getD k []) nc = some (l k) := (vLeadTo_some _ nc _).2 ⟨hl, by rw [h1]; decide, h0⟩
  exact ⟨by rw [vLead, e], hl⟩
theorem vec_vAddS {n c : Nat} {xs ys : List Nat} (hx : xs.length = n) (hy : ys.length = n) (hxa : AllB xs) (hya : AllB ys) (hc : c < 256) : vec (vAddS n xs ys c) = fun j => vec xs j + byte c * vec ys j := by
  funext j
  apply By.ext
  rw [vec_v (vAddS_all hxa hya), vAddS, tab_getD, add_v, mul_v, vec_v hxa, vec_v hya, byte_v hc, mul_comm' c _ hc (hya.getD j)]
  by_cases h : j < n
  · rw [if_pos h]
  · rw [if_neg h, List.getD_eq_getElem?_getD, List.getElem?_eq_none (by omega), List.getD_eq_getElem?_getD, List.getElem?_eq_none (by omega)]
    show 0 = 0 ^^^ mulN 0 c
    rw [mul_zero_left]; rfl
theorem vec_vScale {n c : Nat} {xs : List Nat} (hx : xs.length = n) (hxa : AllB xs) (hc : c < 256) : vec (vScale n xs c) = fun j => byte c * vec xs j := by
  funext j
  apply By.ext
  rw [vec_v (vScale_all hxa), vScale, tab_getD, mul_v, vec_v hxa, byte_v hc, mul_comm' c _ hc (hxa.getD j)]
  by_cases h : j < n
  · rw [if_pos h]
  · rw [if_neg h, List.getD_eq_getElem?_getD, List.getElem?_eq_none (by omega)]
    show 0 = mulN 0 c
    rw [mul_zero_left]
theorem clearTo_all {nc : Nat} {M : List (List Nat)} {row : List Nat} (hM : RowsOk nc M) (hr : AllB row) : ∀ k, k ≤ M.length → AllB (clearTo nc M row k)
  | 0, _ => hr
  | k + 1, h => vAddS_all (clearTo_all hM hr k (by omega)) (hM.at_ (show k < M.length by omega)).2
/-- What is cleared row by row, as rows over the field. -/
theorem vec_clearTo {nc : Nat} {M : List (List Nat)} {row : List Nat} {l : Nat → Nat} (hM : RowsOk nc M) (hr : Red M.length (fn M) l) (hrow : row.length = nc) (hra : AllB row) : ∀ k, k ≤ M.length → vec (clearTo nc M row k) = clearSeq (fn M) l (vec row) k
  | 0, _ => rfl
  | k + 1, h => by
    have ih := vec_clearTo hM hr hrow hra k (by omega)
    have hk : k < M.length := by omega
    have ha := clearTo_all hM hra k (by omega)
    have hw := hM.at_ hk
    show vec (vAddS nc _ _ _) = _
    rw [vec_vAddS (clearTo_len nc M row hrow k) hw.1 ha hw.2 (ha.getD _), (red_lead hM hr hk).1, Int.toNat_natCast]
    funext j
    show vec (clearTo nc M row k) j + byte ((clearTo nc M row k).getD (l k) 0) * fn M k j = clearSeq (fn M) l (vec row) k j + clearSeq (fn M) l (vec row) k (l k) * fn M k j
    rw [← ih]
    rfl
/-- The other rows, cleared at the new lead. -/
def clearedL (nc : Nat) (M : List (List Nat)) (u : List Nat) (L : Nat) : List (List Nat) := M.map fun m => vAddS nc m u (m.getD L 0)
theorem take_map_succ (nc : Nat) (M : List (List Nat)) (u : List Nat) (L k : Nat) (hk : k < M.length) : (clearedL nc M u L).take (k + 1) = (clearedL nc M u L).take k ++ [vAddS nc (M.getD k []) u ((M.getD k []).getD L 0)] := by
  rw [List.take_add_one, clearedL, List.getElem?_map, List.getElem?_eq_getElem hk, List.getD_eq_getElem?_getD, List.getElem?_eq_getElem hk]; rfl
theorem layTo_eq {nc : Nat} {M : List (List Nat)} {u : List Nat} {L q : Nat} (hq : q ≤ M.length) (hlo : ∀ i, i < q → ¬ (L : Int) < vLead nc (M.getD i [])) (hhi : q < M.length → (L : Int) < vLead nc (M.getD q [])) :
    ∀ k, k ≤ M.length → layTo nc M u L k = if k ≤ q then ((clearedL nc M u L).take k, false) else ((clearedL nc M u L).take q ++ [u] ++ ((clearedL nc M u L).take k).drop q, true)
  | 0, _ => by rw [if_pos (Nat.zero_le _)]; rfl
  | k + 1, h => by
    have ih := layTo_eq (u := u) hq hlo hhi k (by omega)
    have hk : k < M.length := by omega
    have hl : (clearedL nc M u L).length = M.length := by simp [clearedL]
    rw [layTo, ih, take_map_succ nc M u L k hk]
    by_cases h1 : k < q
    · rw [if_pos (show k ≤ q by omega), if_pos (show k + 1 ≤ q by omega)]
      have e : decide ((L : Int) < vLead nc (M.getD k [])) = false := decide_eq_false (hlo k h1)
      simp only [e, Bool.and_false, Bool.or_false, if_neg (show ¬ (false = true) by decide)]
    · by_cases h2 : k = q
      · subst h2
        rw [if_pos (Nat.le_refl _), if_neg (show ¬ k + 1 ≤ k by omega)]
        have e : decide ((L : Int) < vLead nc (M.getD k [])) = true := decide_eq_true (hhi hk)
        have hd : ((clearedL nc M u L).take k ++ [vAddS nc (M.getD k []) u ((M.getD k []).getD L 0)]).drop k = [vAddS nc (M.getD k []) u ((M.getD k []).getD L 0)] := by
          rw [List.drop_append_of_le_length (by rw [List.length_take]; omega), List.drop_of_length_le (by rw [List.length_take]; omega)]; rfl
        simp only [e, Bool.not_false, Bool.and_self, if_pos, Bool.false_or, hd]
      · rw [if_neg (show ¬ k ≤ q by omega), if_neg (show ¬ k + 1 ≤ q by omega)]
        simp only [Bool.not_true, Bool.false_and, if_neg (show ¬ (false = true) by decide), Bool.true_or]
        rw [List.drop_append_of_le_length (by rw [List.length_take]; omega), List.append_assoc _ (((clearedL nc M u L).take k).drop q)]
theorem red_congr {r : Nat} {R S : Nat → Nat → By} {l m : Nat → Nat} (h : Red r R l) (he : ∀ i, i < r → R i = S i) (hl : ∀ i, i < r → l i = m i) : Red r S m :=
  ⟨fun i j hij hj => by rw [← hl i (by omega), ← hl j hj]; exact h.inc i j hij hj, fun i hi => by rw [← he i hi, ← hl i hi]; exact h.one i hi, fun i k hi hk hne => by rw [← he k hk, ← hl i hi]; exact h.zero i k hi hk hne, fun i j hi hj => by rw [← he i hi]; rw [← hl i hi] at hj; exact h.low i j hi hj⟩
theorem place {l : Nat → Nat} {L : Nat} : ∀ r, (∀ i j, i < j → j < r → l i < l j) → (∀ i, i < r → l i ≠ L) → ∃ q, q ≤ r ∧ (∀ i, i < q → l i < L) ∧ ∀ i, q ≤ i → i < r → L < l i
  | 0, _, _ => ⟨0, Nat.le_refl _, fun i hi => by omega, fun i _ hi => by omega⟩
  | r + 1, hinc, hne => by
    obtain ⟨q, h1, h2, h3⟩ := place r (fun i j hij hj => hinc i j hij (by omega)) fun i hi => hne i (by omega)
    by_cases e : q = r
    · subst e
      rcases Nat.lt_or_ge (l q) L with h | h
      · exact ⟨q + 1, Nat.le_refl _, fun i hi => by
          by_cases e : i = q
          · subst e; exact h
          · exact h2 i (by omega), fun i a b => by omega⟩
      · exact ⟨q, by omega, h2, fun i a b => by
          obtain rfl : i = q := by omega
          have := hne i (by omega); omega⟩
    · exact ⟨q, by omega, h2, fun i a b => by
        by_cases e2 : i = r
        · subst e2
          have := h3 q (Nat.le_refl _) (by omega)
          have := hinc q i (by omega) (by omega)
          omega
        · exact h3 i a (by omega)⟩
theorem fn_append_row (M : List (List Nat)) (row : List Nat) : ∀ i, i < M.length + 1 → fn (M ++ [row]) i = insM M.length (fn M) (vec row) i := fun i hi => by
  by_cases e : i < M.length
  · rw [insM_lt e, fn, fn, List.getD_eq_getElem?_getD, List.getD_eq_getElem?_getD, List.getElem?_append_left e]
  · obtain rfl : i = M.length := by omega
    rw [insM_at, fn, List.getD_eq_getElem?_getD, List.getElem?_append_right (Nat.le_refl _), Nat.sub_self]; rfl
theorem fn_insert (C : List (List Nat)) (u : List Nat) (q : Nat) (hq : q ≤ C.length) : ∀ i, i < C.length + 1 → fn (C.take q ++ [u] ++ C.drop q) i = insM q (fn C) (vec u) i := fun i hi => by
  have hl : (C.take q).length = q := by rw [List.length_take]; omega
  have hl2 : (C.take q ++ [u]).length = q + 1 := by rw [List.length_append, hl]; rfl
  rw [fn, List.getD_eq_getElem?_getD]
  rcases Nat.lt_trichotomy i q with e | e | e
  · rw [insM_lt e, fn, List.getD_eq_getElem?_getD, List.getElem?_append_left (by omega), List.getElem?_append_left (by omega), List.getElem?_take, if_pos e]
  · subst e
    rw [insM_at, List.getElem?_append_left (by omega), List.getElem?_append_right (by omega), hl, Nat.sub_self]; rfl
  · rw [insM_gt e, fn, List.getD_eq_getElem?_getD, List.getElem?_append_right (by omega), hl2, List.getElem?_drop]
    congr 3; omega
theorem insertN_red {nc : Nat} {M : List (List Nat)} {row : List Nat} (hM : RedL nc M) (hrow : row.length = nc) (hra : AllB row) : RedL nc (insertN nc M row) ∧ SameSpan (insertN nc M row) (M ++ [row]) := by
  obtain ⟨hok, l, hr⟩ := hM
  have hv := vec_clearTo hok hr hrow hra M.length (Nat.le_refl _)
  have hva := clearTo_all hok hra M.length (Nat.le_refl _)
  have hvl := clearTo_len nc M row hrow M.length
  have hsame : ∀ {N : List (List Nat)} {S : Nat → Nat → By}, N.length = M.length + 1 → (∀ i, i < M.length + 1 → fn N i = S i) → Within (M.length + 1) S (M.length + 1) (insM M.length (fn M) (vec row)) ∧ Within (M.length + 1) (insM M.length (fn M) (vec row)) (M.length + 1) S → SameSpan N (M ++ [row]) := fun {N S} hN he hw => by
    have hA : (M ++ [row]).length = M.length + 1 := by simp
    have e1 := within_congr laws (r := M.length + 1) he
    have e1' := within_congr laws (r := M.length + 1) fun i hi => (he i hi).symm
    have e2 := within_congr laws (r := M.length + 1) (fn_append_row M row)
    have e2' := within_congr laws (r := M.length + 1) fun i hi => (fn_append_row M row i hi).symm
    rw [SameSpan, hN, hA]
    exact ⟨(e1.trans laws hw.1).trans laws e2', (e2.trans laws hw.2).trans laws e1'⟩
  by_cases hlead : vLead nc (clearTo nc M row M.length) < 0
  · have hI : insertN nc M row = M := by rw [insertN]; exact if_pos hlead
    rw [hI]
    refine ⟨⟨hok, l, hr⟩, ?_⟩
    have hz : ∀ i, i < nc → (clearTo nc M row M.length).getD i 0 = 0 := by
      refine (vLeadTo_none _ nc).1 ?_
      unfold vLead at hlead
      split at hlead
      · omega
      · assumption
    have h0 : clearSeq (fn M) l (vec row) M.length = fun _ => 0 := by
      rw [← hv]
      funext j
      apply By.ext
      rw [vec_v hva]
      rcases Nat.lt_or_ge j nc with h | h
      · exact hz j h
      · rw [List.getD_eq_getElem?_getD, List.getElem?_eq_none (by omega)]; rfl
    have hin := (clearSeq_span laws hr (vec row)).2 h0
    have hm := within_more laws hin
    have hA : (M ++ [row]).length = M.length + 1 := by simp
    have e2 := within_congr laws (r := M.length + 1) (fn_append_row M row)
    have e2' := within_congr laws (r := M.length + 1) fun i hi => (fn_append_row M row i hi).symm
    rw [SameSpan, hA]
    exact ⟨hm.2.trans laws e2', e2.trans laws hm.1⟩
  · obtain ⟨L, hL⟩ : ∃ L, vLeadTo (clearTo nc M row M.length) nc = some L := by
      unfold vLead at hlead
      split at hlead
      · exact ⟨_, by assumption⟩
      · omega
    obtain ⟨hLn, hL0, hLz⟩ := (vLeadTo_some _ nc L).1 hL
    have hvL : vLead nc (clearTo nc M row M.length) = (L : Int) := by rw [vLead, hL]
    obtain ⟨v, hvv⟩ : ∃ v, clearTo nc M row M.length = v := ⟨_, rfl⟩
    obtain ⟨u, hu⟩ : ∃ u, vScale nc v (invN (v.getD L 0)) = u := ⟨_, rfl⟩
    rw [hvv] at hv hva hvl hL0 hLz hvL
    have ha := invN_lt (v.getD L 0)
    have hwu : vec u = fun j => byte (invN (v.getD L 0)) * vec v j := by rw [← hu]; exact vec_vScale hvl hva ha
    have hvn : ∀ i, i < M.length → vec v (l i) = 0 := fun i hi => by rw [hv]; exact clearSeq_nought laws hr (vec row) hi
    have hne : ∀ i, i < M.length → l i ≠ L := fun i hi e => hL0 (by
      have := congrArg By.v (hvn i hi)
      rw [vec_v hva, e] at this; exact this)
    obtain ⟨q, hq, hqlo, hqhi⟩ := place M.length hr.inc hne
    have hpos : 1 ≤ v.getD L 0 := by omega
    have hw1 : vec u L = 1 := by
      rw [hwu]; apply By.ext
      show mulN (byte (invN (v.getD L 0))).v (vec v L).v = 1
      rw [byte_v ha, vec_v hva, mul_comm' _ _ ha (hva.getD L), mul_inv _ (hva.getD L) hpos]
    have hwlow : ∀ j, j < L → vec u j = 0 := fun j hj => by
      rw [hwu]
      have : vec v j = 0 := By.ext (by rw [vec_v hva]; exact hLz j hj)
      show byte _ * vec v j = 0
      rw [this, laws.mul_zero]
    have hwz : ∀ i, i < M.length → vec u (l i) = 0 := fun i hi => by
      rw [hwu]
      show byte _ * vec v (l i) = 0
      rw [hvn i hi, laws.mul_zero]
    have hane : byte (invN (v.getD L 0)) ≠ 0 := fun e => by
      have h1 := congrArg By.v hw1
      rw [hwu] at h1
      have h2 : (byte (invN (v.getD L 0)) * vec v L) = 0 := by rw [e, laws.zero_mul]
      rw [show (fun j => byte (invN (v.getD L 0)) * vec v j) L = 0 from h2] at h1
      cases h1
    have hred := insert_red laws hr hq hqlo hqhi hwz hw1 hwlow
    have hspan := insert_span laws (R := fn M) (L := L) (w := vec u) (v := vec row) (c := fun i => vec row (l i)) hq hane (fun j => by
      rw [hwu]
      show byte _ * vec v j = byte _ * (vec row j + comb M.length (fn M) (fun i => vec row (l i)) j)
      rw [hv, clearSeq_eq laws hr (vec row) (Nat.le_refl _)])
    have hua : AllB u := by rw [← hu]; exact vScale_all hva
    have hul : u.length = nc := by rw [← hu]; exact tab_length _ _
    have hC : (clearedL nc M u L).length = M.length := by simp [clearedL]
    have hlay := layTo_eq (nc := nc) (M := M) (u := u) (L := L) hq (fun i hi e => by
        rw [(red_lead hok hr (show i < M.length by omega)).1] at e
        have := hqlo i hi; omega) (fun h => by
        rw [(red_lead hok hr h).1]
        have := hqhi q (Nat.le_refl _) h; omega) M.length (Nat.le_refl _)
    have hI : insertN nc M row = (clearedL nc M u L).take q ++ [u] ++ (clearedL nc M u L).drop q := by
      have e0 : insertN nc M row = if (layTo nc M u L M.length).2 = true then (layTo nc M u L M.length).1 else (layTo nc M u L M.length).1 ++ [u] := by
        rw [insertN, hvv]
        show (if vLead nc v < 0 then _ else _) = _
        rw [hvL, if_neg (by omega)]
        show (if (layTo nc M (vScale nc v (invN (v.getD ((L : Int)).toNat 0))) ((L : Int)).toNat M.length).2 = true then _ else _) = _
        rw [Int.toNat_natCast, hu]
      have hall : (clearedL nc M u L).take M.length = clearedL nc M u L := List.take_of_length_le (by omega)
      rw [e0, hlay]
      by_cases hqr : M.length ≤ q
      · obtain rfl : q = M.length := by omega
        rw [if_pos (Nat.le_refl _), if_neg (fun e => Bool.noConfusion e), List.drop_of_length_le (by omega), List.append_nil]
      · rw [if_neg hqr, if_pos rfl, hall]
    have hCfn : ∀ i, i < M.length → fn (clearedL nc M u L) i = clearM (fn M) L (vec u) i := fun i hi => by
      have hw := hok.at_ hi
      rw [fn, clearedL, List.getD_eq_getElem?_getD, List.getElem?_map, List.getElem?_eq_getElem hi]
      have e : M.getD i [] = M[i] := by rw [List.getD_eq_getElem?_getD, List.getElem?_eq_getElem hi]; rfl
      show vec (vAddS nc M[i] u (M[i].getD L 0)) = _
      rw [← e, vec_vAddS hw.1 hul hw.2 hua (hw.2.getD L)]
      rfl
    have hfn : ∀ i, i < M.length + 1 → fn (insertN nc M row) i = insM q (clearM (fn M) L (vec u)) (vec u) i := fun i hi => by
      rw [hI, fn_insert _ _ _ (by omega) i (by omega)]
      rcases Nat.lt_trichotomy i q with e | e | e
      · rw [insM_lt e, insM_lt e, hCfn i (by omega)]
      · subst e; rw [insM_at, insM_at]
      · rw [insM_gt e, insM_gt e, hCfn (i - 1) (by omega)]
    have hlen : (insertN nc M row).length = M.length + 1 := by
      rw [hI]; simp [hC]; omega
    refine ⟨⟨fun x hx => ?_, insM q l L, ?_⟩, hsame hlen hfn hspan⟩
    · rw [hI] at hx
      have hCm : ∀ y ∈ clearedL nc M u L, y.length = nc ∧ AllB y := fun y hy => by
        obtain ⟨m, hm, rfl⟩ := List.mem_map.1 hy
        exact ⟨tab_length _ _, vAddS_all (hok m hm).2 hua⟩
      simp only [List.mem_append, List.mem_singleton] at hx
      rcases hx with (hx | rfl) | hx
      · exact hCm x (List.mem_of_mem_take hx)
      · exact ⟨hul, hua⟩
      · exact hCm x (List.mem_of_mem_drop hx)
    · rw [hlen]; exact red_congr hred (fun i hi => (hfn i hi).symm) fun i hi => rfl
/-- Rows, put in one by one. -/
def reduceTo (nc : Nat) (M : List (List Nat)) (k : Nat) : List (List Nat) := (M.take k).foldl (insertN nc) []
theorem within_left {A B : List (List Nat)} : Within A.length (fn A) (A ++ B).length (fn (A ++ B)) := fun i hi => by
  have e : fn (A ++ B) i = fn A i := by rw [fn, fn, List.getD_eq_getElem?_getD, List.getD_eq_getElem?_getD, List.getElem?_append_left hi]
  rw [← e]
  exact InSpan.row laws (fn (A ++ B)) (by rw [List.length_append]; omega)
theorem within_append {A B C : List (List Nat)} (h1 : Within A.length (fn A) C.length (fn C)) (h2 : Within B.length (fn B) C.length (fn C)) : Within (A ++ B).length (fn (A ++ B)) C.length (fn C) := fun i hi => by
  rcases Nat.lt_or_ge i A.length with h | h
  · have e : fn (A ++ B) i = fn A i := by rw [fn, fn, List.getD_eq_getElem?_getD, List.getD_eq_getElem?_getD, List.getElem?_append_left h]
    rw [e]; exact h1 i h
  · have e : fn (A ++ B) i = fn B (i - A.length) := by rw [fn, fn, List.getD_eq_getElem?_getD, List.getD_eq_getElem?_getD, List.getElem?_append_right h]
    rw [e]; rw [List.length_append] at hi; exact h2 _ (by omega)
theorem redL_nil (nc : Nat) : RedL nc [] := ⟨fun r hr => by simp at hr, fun _ => 0, ⟨fun i j _ hj => by simp at hj, fun i hi => by simp at hi, fun i k hi => by simp at hi, fun i j hi => by simp at hi⟩⟩
end Go.Proofs.YtifopodnceopjaaGreatDoor
/- A basis: rows of coefficients and payload, side by side, reduced as they come. -/
namespace Go.Proofs.YtifopodnceopjaaGreatDoor
open Lin
/-- What the rows leave of one. -/
def leftB (nc : Nat) (B : List (List Nat)) (row : List Nat) : List Nat := clearTo nc B row B.length
/-- A row is put in, if it is new. -/
def insB (g s : Nat) (B : List (List Nat)) (row : List Nat) : List (List Nat) := if vLead g (leftB (g + s) B row) < 0 then B else insertN (g + s) B row
/-- A basis of g and s: reduced, each row with its lead among the coefficients. -/
structure Bas (g s : Nat) (B : List (List Nat)) : Prop where
  red : RedL (g + s) B
  inj : ∀ x : Nat → By, InSpan B.length (fn B) x → (∀ j, j < g → x j = 0) → x = fun _ => 0
theorem Bas.nil (g s : Nat) : Bas g s [] := ⟨redL_nil _, fun x h _ => by
  obtain ⟨c, rfl⟩ := h
  rfl⟩
theorem vLead_some {n : Nat} {xs : List Nat} (h : ¬ vLead n xs < 0) : ∃ L, vLeadTo xs n = some L ∧ vLead n xs = (L : Int) := by
  unfold vLead at h ⊢
  split at h
  · next i e => exact ⟨i, e, rfl⟩
  · omega
theorem vLead_none {n : Nat} {xs : List Nat} (h : vLead n xs < 0) : ∀ i, i < n → xs.getD i 0 = 0 := by
  refine (vLeadTo_none xs n).1 ?_
  unfold vLead at h
  split at h
  · omega
  · assumption
theorem vLead_neg {n : Nat} {xs : List Nat} (h : ∀ i, i < n → xs.getD i 0 = 0) : vLead n xs < 0 := by
  rw [vLead, (vLeadTo_none xs n).2 h]; decide
theorem vLead_at {n L : Nat} {xs : List Nat} (hL : L < n) (h0 : xs.getD L 0 ≠ 0) (hz : ∀ j, j < L → xs.getD j 0 = 0) : vLead n xs = (L : Int) := by
  rw [vLead, (vLeadTo_some xs n L).2 ⟨hL, h0, hz⟩]
theorem vLead_less {g nc : Nat} {xs : List Nat} (hg : g ≤ nc) (h : ¬ vLead g xs < 0) : vLead nc xs = vLead g xs := by
  obtain ⟨L, h1, h2⟩ := vLead_some h
  obtain ⟨a, b, c⟩ := (vLeadTo_some xs g L).1 h1
  rw [h2]; exact vLead_at (by omega) b c
theorem left_len {nc : Nat} {B : List (List Nat)} {row : List Nat} (h : row.length = nc) : (leftB nc B row).length = nc := clearTo_len nc B row h _
theorem left_all {nc : Nat} {B : List (List Nat)} {row : List Nat} (hB : RowsOk nc B) (h : AllB row) : AllB (leftB nc B row) := clearTo_all hB h _ (Nat.le_refl _)
/-- What is left, as rows over the field. -/
theorem left_vec {nc : Nat} {B : List (List Nat)} {row : List Nat} {l : Nat → Nat} (hB : RowsOk nc B) (hr : Red B.length (fn B) l) (hl : row.length = nc) (ha : AllB row) : vec (leftB nc B row) = fun j => vec row j + comb B.length (fn B) (fun i => vec row (l i)) j := by
  rw [leftB, vec_clearTo hB hr hl ha _ (Nat.le_refl _), clearSeq_eq laws hr _ (Nat.le_refl _)]
theorem left_nought {nc : Nat} {B : List (List Nat)} {row : List Nat} {l : Nat → Nat} (hB : RowsOk nc B) (hr : Red B.length (fn B) l) (hl : row.length = nc) (ha : AllB row) {i : Nat} (hi : i < B.length) : vec (leftB nc B row) (l i) = 0 := by
  rw [left_vec hB hr hl ha]; exact cleared laws hr _ hi
namespace Bas
variable {g s : Nat} {B : List (List Nat)}
theorem ok (h : Bas g s B) : RowsOk (g + s) B := h.red.1
/-- Each lead is that of a coefficient. -/
theorem leads (h : Bas g s B) : ∃ l, Red B.length (fn B) l ∧ ∀ i, i < B.length → l i < g := by
  obtain ⟨hok, l, hr⟩ := h.red
  refine ⟨l, hr, fun i hi => ?_⟩
  rcases Nat.lt_or_ge (l i) g with e | e
  · exact e
  · have := h.inj (fn B i) (InSpan.row laws (fn B) hi) fun j hj => hr.low i j hi (by omega)
    have h1 := hr.one i hi
    rw [this] at h1
    exact (laws.nought h1.symm).elim
theorem lead_at (h : Bas g s B) {l : Nat → Nat} (hr : Red B.length (fn B) l) {i : Nat} (hi : i < B.length) : vLead (g + s) (B.getD i []) = (l i : Int) := (red_lead h.ok hr hi).1
theorem length_le (h : Bas g s B) : B.length ≤ g := by
  obtain ⟨l, hr, hl⟩ := h.leads
  rcases Nat.eq_zero_or_pos B.length with e | e
  · omega
  · have := hr.lead_top hl e; omega
end Bas
theorem byte_zero {x : Nat} (hx : x < 256) (h : byte x = 0) : x = 0 := by
  have := congrArg By.v h
  rwa [byte_v hx] at this
theorem vec_zero_iff {xs : List Nat} (ha : AllB xs) (j : Nat) : vec xs j = 0 ↔ xs.getD j 0 = 0 :=
  ⟨fun h => byte_zero (ha.getD j) h, fun h => by show byte (xs.getD j 0) = 0; rw [h]; rfl⟩
theorem makes_one {row : List Nat} {b : Nat → By} (h : Makes [row] b) : ∃ c, b = fun j => c * vec row j := by
  obtain ⟨c, rfl⟩ := h
  refine ⟨c 0, funext fun j => ?_⟩
  show (0 : By) + c 0 * fn [row] 0 j = _
  rw [laws.add_comm, laws.add_zero]; rfl
/-- A row is put in: a basis again. -/
theorem insB_bas {g s : Nat} {B : List (List Nat)} {row : List Nat} (h : Bas g s B) (hl : row.length = g + s) (ha : AllB row) : Bas g s (insB g s B row) := by
  rw [insB]
  split
  · exact h
  · next hlead =>
    obtain ⟨hT, hS⟩ := insertN_red h.red hl ha
    obtain ⟨l, hr, hlt⟩ := h.leads
    obtain ⟨L, h1, h2⟩ := vLead_some hlead
    obtain ⟨hLg, hL0, hLz⟩ := (vLeadTo_some _ g L).1 h1
    refine ⟨hT, fun x hx hz => ?_⟩
    have hx2 : Makes (B ++ [row]) x := InSpan.trans laws hx hS.1
    obtain ⟨y, b, hy, hb, rfl⟩ := makes_append.1 hx2
    obtain ⟨c, rfl⟩ := makes_one hb
    have hv := left_vec h.ok hr hl ha
    have hn := fun i hi => left_nought h.ok hr hl ha (i := i) hi
    have hva := left_all (B := B) h.ok ha
    obtain ⟨v, hvv⟩ : ∃ v, leftB (g + s) B row = v := ⟨_, rfl⟩
    rw [hvv] at hv hn hva hL0 hLz
    have hrow : ∀ j, vec row j = vec v j + comb B.length (fn B) (fun i => vec row (l i)) j := fun j => by
      rw [hv]
      show _ = vec row j + _ + _
      rw [laws.add_assoc, laws.add_self, laws.add_zero]
    have hy2 : InSpan B.length (fn B) fun j => y j + c * comb B.length (fn B) (fun i => vec row (l i)) j := InSpan.add laws hy (InSpan.mul laws c ⟨_, rfl⟩)
    obtain ⟨y2, hy2e⟩ : ∃ y2, (fun j => y j + c * comb B.length (fn B) (fun i => vec row (l i)) j) = y2 := ⟨_, rfl⟩
    rw [hy2e] at hy2
    have e : ∀ j, y j + c * vec row j = y2 j + c * vec v j := fun j => by
      rw [hrow j, ← hy2e]
      show _ = y j + _ + _
      rw [laws.mul_add, laws.add_assoc]
      congr 1
      exact laws.add_comm _ _
    have hz2 : ∀ j, j < g → y2 j + c * vec v j = 0 := fun j hj => by rw [← e]; exact hz j hj
    have hy0 := hr.nought laws hy2 fun i hi => by
      have := hz2 (l i) (hlt i hi)
      rw [hn i hi, laws.mul_zero, laws.add_zero] at this; exact this
    have hc : c = 0 := by
      have h3 := hz2 L hLg
      rw [hy0, laws.zero_add, laws.mul_comm] at h3
      exact Laws.mul_eq_zero laws h3 fun e0 => hL0 ((vec_zero_iff hva L).1 e0)
    funext j
    show y j + c * vec row j = 0
    rw [e j, hy0, hc, laws.zero_mul, laws.add_zero]
/-- Is a row of these coefficients of the rows' span? -/
def inB (g s : Nat) (B : List (List Nat)) (row : List Nat) : Prop := vLead g (leftB (g + s) B row) < 0
instance (g s : Nat) (B : List (List Nat)) (row : List Nat) : Decidable (inB g s B row) := by unfold inB; infer_instance
theorem insB_in {g s : Nat} {B : List (List Nat)} {row : List Nat} (h : inB g s B row) : insB g s B row = B := if_pos h
theorem insB_new {g s : Nat} {B : List (List Nat)} {row : List Nat} (h : ¬ inB g s B row) : insB g s B row = insertN (g + s) B row := if_neg h
theorem layTo_len (nc : Nat) (M : List (List Nat)) (u : List Nat) (L : Nat) : ∀ k, (layTo nc M u L k).1.length = k + (if (layTo nc M u L k).2 = true then 1 else 0)
  | 0 => rfl
  | k + 1 => by
    have ih := layTo_len nc M u L k
    rw [layTo]
    cases h2 : (layTo nc M u L k).2 with
    | true =>
      rw [h2, if_pos rfl] at ih
      simp only [Bool.not_true, Bool.false_and, if_neg (show ¬ (false = true) by decide), Bool.true_or, if_pos, List.length_append, ih, List.length_singleton]
    | false =>
      rw [h2, if_neg (show ¬ (false = true) by decide)] at ih
      by_cases h3 : (L : Int) < vLead nc (M.getD k [])
      · have e : decide ((L : Int) < vLead nc (M.getD k [])) = true := decide_eq_true h3
        simp only [e, Bool.not_false, Bool.and_self, if_pos, Bool.false_or, List.length_append, ih, List.length_singleton]
      · have e : decide ((L : Int) < vLead nc (M.getD k [])) = false := decide_eq_false h3
        simp only [e, Bool.and_false, if_neg (show ¬ (false = true) by decide), Bool.or_false, List.length_append, ih, List.length_singleton]
theorem insertN_len {nc : Nat} {M : List (List Nat)} {row : List Nat} (h : ¬ vLead nc (leftB nc M row) < 0) : (insertN nc M row).length = M.length + 1 := by
  have e : insertN nc M row = if (layTo nc M (vScale nc (leftB nc M row) (invN ((leftB nc M row).getD (vLead nc (leftB nc M row)).toNat 0))) (vLead nc (leftB nc M row)).toNat M.length).2 = true then (layTo nc M (vScale nc (leftB nc M row) (invN ((leftB nc M row).getD (vLead nc (leftB nc M row)).toNat 0))) (vLead nc (leftB nc M row)).toNat M.length).1 else (layTo nc M (vScale nc (leftB nc M row) (invN ((leftB nc M row).getD (vLead nc (leftB nc M row)).toNat 0))) (vLead nc (leftB nc M row)).toNat M.length).1 ++ [vScale nc (leftB nc M row) (invN ((leftB nc M row).getD (vLead nc (leftB nc M row)).toNat 0))] := by
    rw [insertN]; exact if_neg h
  rw [e]
  have hl := layTo_len nc M (vScale nc (leftB nc M row) (invN ((leftB nc M row).getD (vLead nc (leftB nc M row)).toNat 0))) (vLead nc (leftB nc M row)).toNat M.length
  split
  · next h1 => rw [hl, if_pos h1]
  · next h1 => rw [List.length_append, hl, if_neg h1]; rfl
theorem insB_len {g s : Nat} {B : List (List Nat)} {row : List Nat} : (insB g s B row).length = B.length + (if inB g s B row then 0 else 1) := by
  by_cases h : inB g s B row
  · rw [insB_in h, if_pos h]; rfl
  · rw [insB_new h, if_neg h]
    refine insertN_len fun h2 => h ?_
    have := vLead_none h2
    exact vLead_neg fun i hi => this i (by omega)
end Go.Proofs.YtifopodnceopjaaGreatDoor
/- The document's answers of layer 6 in plain terms. -/
namespace Go.Proofs.YtifopodnceopjaaGreatDoor
open Lin
/-- The document's reduced matrix. -/
def reduceN (M : List (List Nat)) : List (List Nat) := if fits M then reduceTo (sizeC M) M M.length else []
/-- The document's product. -/
def mulR (M N : List (List Nat)) : Prop := fits M ∧ fits N ∧ sizeC M = sizeR N
instance (M N : List (List Nat)) : Decidable (mulR M N) := by unfold mulR; infer_instance
theorem vUnit_all (n k : Nat) : AllB (vUnit n k) := fun x hx => by
  obtain ⟨i, _, rfl⟩ := List.mem_map.1 hx
  show (if i = k then 1 else 0) < 256
  split <;> decide
end Go.Proofs.YtifopodnceopjaaGreatDoor
/- What layer 6's answers are to one another: products, transposes, ranks, inverses (plain). -/
namespace Go.Proofs.YtifopodnceopjaaGreatDoor.Lin
variable {B : Type} [Add B] [Mul B] [Zero B] [One B]
end Go.Proofs.YtifopodnceopjaaGreatDoor.Lin
namespace Go.Proofs.YtifopodnceopjaaGreatDoor
open Lin
/-- A matrix of r rows and c columns. -/
def Sz (r c : Nat) (M : List (List Nat)) : Prop := M.length = r ∧ RowsOk c M
namespace Sz
variable {r c n m : Nat} {M N O : List (List Nat)}
theorem fits (h : Sz r c M) : Go.Proofs.YtifopodnceopjaaGreatDoor.fits M := fun x hx => by
  cases M with
  | nil => simp at hx
  | cons y M => rw [List.headD_cons, (h.2 x hx).1, (h.2 y (by simp)).1]
theorem sizeC (h : Sz r c M) (hr : 1 ≤ r) : sizeC M = c := by
  rw [Go.Proofs.YtifopodnceopjaaGreatDoor.sizeC, if_pos h.fits]
  cases M with
  | nil => have := h.1; simp at this; omega
  | cons y M => rw [List.headD_cons, (h.2 y (by simp)).1]
theorem sizeR (h : Sz r c M) : sizeR M = r := by rw [Go.Proofs.YtifopodnceopjaaGreatDoor.sizeR, if_pos h.fits, h.1]
theorem at_ (h : Sz r c M) {i : Nat} (hi : i < r) : (M.getD i []).length = c ∧ AllB (M.getD i []) := h.2.at_ (by rw [h.1]; exact hi)
theorem wide (h : Sz r c M) : ∀ i, i < r → Wide c (fn M i) := fun i hi => h.2.wide i (by rw [h.1]; exact hi)
theorem ext (h : Sz r c M) (k : Sz r c N) (e : ∀ i, i < r → fn M i = fn N i) : M = N := by
  refine List.ext_getElem (h.1.trans k.1.symm) fun i h1 h2 => ?_
  have hi : i < r := by rw [← h.1]; exact h1
  have := vec_inj ((h.at_ hi).1.trans (k.at_ hi).1.symm) (h.at_ hi).2 (k.at_ hi).2 (e i hi)
  rwa [List.getD_eq_getElem?_getD, List.getElem?_eq_getElem h1, List.getD_eq_getElem?_getD, List.getElem?_eq_getElem h2] at this
end Sz
theorem sm_v (n : Nat) (f : Nat → By) : (sm n f).v = sumX (fun i => (f i).v) n := by
  induction n with
  | zero => rfl
  | succ n ih => rw [sumX, ← ih]; rfl
theorem dotN_lt {x : List Nat} {N : List (List Nat)} {n : Nat} (hx : AllB x) (j : Nat) : dotN x N j n < 256 := sumX_lt _ _ fun i _ => mulN_lt _ (hx.getD i)
theorem rowN_all {x : List Nat} {N : List (List Nat)} {n c : Nat} (hx : AllB x) : AllB (rowN x N n c) := fun y hy => by
  obtain ⟨j, _, rfl⟩ := List.mem_map.1 hy
  exact dotN_lt hx j
theorem vec_rowN {x : List Nat} {N : List (List Nat)} {n c : Nat} (hx : AllB x) (h : Sz n c N) : vec (rowN x N n c) = comb n (fn N) (vec x) := by
  funext j
  by_cases hj : j < c
  · apply By.ext
    rw [vec_v (rowN_all hx), rowN, tab_getD, if_pos hj, comb, sm_v]
    refine sumX_congr fun i hi => ?_
    rw [mul_v, vec_v hx]
    show _ = mulN (x.getD i 0) (vec (N.getD i []) j).v
    rw [vec_v (h.at_ hi).2]
  · rw [vec_wide (n := c) (by rw [rowN, tab_length]) j (by omega)]
    exact (sm_zero laws n fun i hi => by rw [h.wide i hi j (by omega), laws.mul_zero]).symm
section
variable {r n c m : Nat} {M N O : List (List Nat)}
theorem vec_unit {n i : Nat} (hi : i < n) : vec (vUnit n i) = unitM i := funext fun j => by
  apply By.ext
  rw [vec_v (vUnit_all n i), vUnit, tab_getD]
  show _ = (if j = i then (1 : By) else 0).v
  by_cases e : j = i
  · subst e; rw [if_pos hi, if_pos rfl, if_pos rfl]; rfl
  · rw [if_neg e, if_neg e, ite_self]; rfl
/-- The rank. -/
def rk (M : List (List Nat)) : Nat := (reduceN M).length
end
section
variable {n : Nat} {M N V A : List (List Nat)}
end
end Go.Proofs.YtifopodnceopjaaGreatDoor
/- What layer 6's answers are to one another: one form, ranks of rows together, solving (plain). -/
namespace Go.Proofs.YtifopodnceopjaaGreatDoor
open Lin
section
variable {r c s n : Nat} {M N R : List (List Nat)}
theorem Sz.mem (h : Sz r c M) {N : List (List Nat)} (hm : ∀ x ∈ N, x ∈ M) : Sz N.length c N := ⟨rfl, fun x hx => h.2 x (hm x hx)⟩
theorem Sz.append (h : Sz r c M) (k : Sz s c N) : Sz (r + s) c (M ++ N) := ⟨by rw [List.length_append, h.1, k.1], fun x hx => by
  rcases List.mem_append.1 hx with e | e
  · exact h.2 x e
  · exact k.2 x e⟩
theorem Sz.one {v : List Nat} (hl : v.length = c) (ha : AllB v) : Sz 1 c [v] := ⟨rfl, fun x hx => by simp at hx; subst hx; exact ⟨hl, ha⟩⟩
theorem Sz.set (h : Sz r c M) {i : Nat} {v : List Nat} (hl : v.length = c) (ha : AllB v) : Sz r c (M.set i v) := ⟨by rw [List.length_set, h.1], fun x hx => by
  rcases List.mem_or_eq_of_mem_set hx with e | rfl
  · exact h.2 x e
  · exact ⟨hl, ha⟩⟩
end
section
variable {r c s n : Nat} {M N O : List (List Nat)}
/-- Of their sum. -/
def sumN (c : Nat) (M N : List (List Nat)) (k : Nat) : List (List Nat) := (List.range k).map fun i => vAdd c (M.getD i []) (N.getD i [])
end
section
variable {n : Nat} {M : List (List Nat)} {row : List Nat}
end
end Go.Proofs.YtifopodnceopjaaGreatDoor
/- Rows that are combinations of symbols, coefficients and payload alike: what a basis makes of them. -/
namespace Go.Proofs.YtifopodnceopjaaGreatDoor
open Lin
/-- What coefficients make of the symbols. -/
def payV (g s : Nat) (M : List (List Nat)) (c : List Nat) : List Nat := vComb s M c g
/-- A row that goes with the symbols. -/
def rowV (g s : Nat) (M : List (List Nat)) (c : List Nat) : List Nat := c ++ payV g s M c
/-- The symbols, each behind its unit. -/
def symR (g : Nat) (M : List (List Nat)) : Nat → Nat → By := fun i => pairV g (unitM i) (fn M i)
theorem vec_pair {a b : List Nat} {n : Nat} (h : a.length = n) : vec (a ++ b) = pairV n (vec a) (vec b) := by
  funext j
  rcases Nat.lt_or_ge j n with hj | hj
  · rw [pair_left hj]
    show byte ((a ++ b).getD j 0) = byte (a.getD j 0)
    rw [List.getD_eq_getElem?_getD, List.getElem?_append_left (by omega), ← List.getD_eq_getElem?_getD]
  · obtain ⟨i, rfl⟩ : ∃ i, j = n + i := ⟨j - n, by omega⟩
    rw [pair_right]
    show byte ((a ++ b).getD (n + i) 0) = byte (b.getD i 0)
    rw [List.getD_eq_getElem?_getD, List.getElem?_append_right (by omega), h, Nat.add_sub_cancel_left, ← List.getD_eq_getElem?_getD]
section
variable {g s : Nat} {M : List (List Nat)} {c : List Nat}
theorem payV_eq (h : Sz g s M) (hc : AllB c) : payV g s M c = rowN c M g s := tab_congr fun k _ => sumX_congr fun i hi => mul_comm' _ _ ((h.at_ hi).2.getD k) (hc.getD i)
theorem payV_len : (payV g s M c).length = s := tab_length _ _
theorem rowV_ok (h : Sz g s M) (hl : c.length = g) (hc : AllB c) : (rowV g s M c).length = g + s ∧ AllB (rowV g s M c) :=
  ⟨by rw [rowV, List.length_append, hl, payV_len], hc.append (by rw [payV_eq h hc]; exact rowN_all hc)⟩
theorem vec_rowV (h : Sz g s M) (hl : c.length = g) (hc : AllB c) : vec (rowV g s M c) = comb g (symR g M) (vec c) := by
  rw [rowV, vec_pair hl, payV_eq h hc, vec_rowN hc h]
  show _ = comb g (fun i => pairV g (unitM i) (fn M i)) (vec c)
  rw [comb_pair, mul_unit laws (vec_wide hl)]
/-- What goes with the symbols and has no coefficients is nothing. -/
theorem symR_zero {x : Nat → By} (h : InSpan g (symR g M) x) (hz : ∀ j, j < g → x j = 0) : x = fun _ => 0 := by
  obtain ⟨c, rfl⟩ := h
  have hc : ∀ i, i < g → c i = 0 := fun i hi => by
    have h1 := hz i hi
    have e : comb g (symR g M) c i = c i := by
      show sm g (fun k => c k * symR g M k i) = c i
      rw [sm_one laws hi (fun k hk hne => by
        rw [show symR g M k i = unitM k i from pair_left hi, unitM, if_neg (fun e => hne e.symm), laws.mul_zero]), show symR g M i i = unitM i i from pair_left hi, unitM, if_pos rfl, laws.mul_one]
    rw [e] at h1; exact h1
  exact funext fun j => sm_zero laws g fun i hi => by rw [hc i hi, laws.zero_mul]
/-- A row of bytes that goes with the symbols is told by its coefficients. -/
theorem symR_row (h : Sz g s M) {r : List Nat} (hl : r.length = g + s) (ha : AllB r) (hr : InSpan g (symR g M) (vec r)) : r = rowV g s M (r.take g) := by
  have ht : (r.take g).length = g := by rw [List.length_take]; omega
  have hta : AllB (r.take g) := ha.take g
  have ok := rowV_ok h ht hta
  refine vec_inj (hl.trans ok.1.symm) ha ok.2 ?_
  have hx : InSpan g (symR g M) fun j => vec r j + vec (rowV g s M (r.take g)) j := InSpan.add laws hr ⟨_, vec_rowV h ht hta⟩
  have h0 := symR_zero hx fun j hj => by
    have e : vec (rowV g s M (r.take g)) j = vec r j := by
      rw [rowV, vec_pair ht, pair_left hj]
      show byte ((r.take g).getD j 0) = byte (r.getD j 0)
      rw [List.getD_eq_getElem?_getD, List.getElem?_take, if_pos hj, ← List.getD_eq_getElem?_getD]
    rw [e, laws.add_self]
  funext j
  exact laws.eq_of_add (congrFun h0 j)
/-- Of such rows, all that is put in is put in as into a matrix. -/
theorem insB_sym {B : List (List Nat)} {row : List Nat} (hB : Bas g s B) (hw : Within B.length (fn B) g (symR g M)) (hl : row.length = g + s) (ha : AllB row) (hr : InSpan g (symR g M) (vec row)) :
    insB g s B row = insertN (g + s) B row ∧ Within (insB g s B row).length (fn (insB g s B row)) g (symR g M) ∧ SameSpan (insB g s B row) (B ++ [row]) := by
  have e : insB g s B row = insertN (g + s) B row := by
    by_cases hin : inB g s B row
    · rw [insB_in hin]
      obtain ⟨l, hrd, hlt⟩ := hB.leads
      have hv := left_vec hB.ok hrd hl ha
      have hs : InSpan g (symR g M) (vec (leftB (g + s) B row)) := by
        rw [hv]; exact InSpan.add laws hr (InSpan.trans laws ⟨_, rfl⟩ hw)
      have h0 := symR_zero hs fun j hj => (vec_zero_iff (left_all hB.ok ha) j).2 (vLead_none hin j hj)
      have hneg : vLead (g + s) (leftB (g + s) B row) < 0 := vLead_neg fun i _ => (vec_zero_iff (left_all hB.ok ha) i).1 (by rw [h0])
      have : insertN (g + s) B row = B := by rw [insertN]; exact if_pos hneg
      exact this.symm
    · exact insB_new hin
  obtain ⟨_, hS⟩ := insertN_red hB.red hl ha
  rw [e]
  refine ⟨rfl, hS.1.trans laws ?_, hS⟩
  intro i hi
  rw [List.length_append, List.length_singleton] at hi
  rw [fn_append_row B row i hi]
  by_cases e2 : i < B.length
  · rw [insM_lt e2]; exact hw i e2
  · obtain rfl : i = B.length := by omega
    rw [insM_at]; exact hr
/-- Each row of such a basis goes with the symbols. -/
theorem bas_rows {B : List (List Nat)} (h : Sz g s M) (hB : Bas g s B) (hw : Within B.length (fn B) g (symR g M)) : ∀ r ∈ B, r = rowV g s M (r.take g) := fun r hr => by
  have := hB.ok r hr
  obtain ⟨i, hi, e⟩ := List.getElem_of_mem hr
  have hs := hw i hi
  rw [fn, List.getD_eq_getElem?_getD, List.getElem?_eq_getElem hi, Option.getD_some, e] at hs
  exact symR_row h this.1 this.2 hs
/-- As many rows as coefficients: the leads are all places. -/
theorem full_leads {B : List (List Nat)} (hg : B.length = g) {l : Nat → Nat} (hr : Red B.length (fn B) l) (hl : ∀ i, i < B.length → l i < g) : ∀ i, i < g → l i = i := fun i hi => by
  have h1 := hr.lead_le (i := i) (by omega)
  have h2 := hr.lead_top hl (i := i) (by omega)
  omega
/-- .. and what is solved are the symbols. -/
theorem solved {B : List (List Nat)} (h : Sz g s M) (hB : Bas g s B) (hw : Within B.length (fn B) g (symR g M)) (hg : B.length = g) : B.map (List.drop g) = M := by
  obtain ⟨l, hr, hl⟩ := hB.leads
  have hll := full_leads hg hr hl
  refine (show Sz g s (B.map (List.drop g)) from ⟨by rw [List.length_map, hg], fun x hx => by
    obtain ⟨y, hy, rfl⟩ := List.mem_map.1 hx
    have := hB.ok y hy
    exact ⟨by rw [List.length_drop, this.1]; omega, fun z hz => this.2 z (List.mem_of_mem_drop hz)⟩⟩).ext h fun i hi => ?_
  have hiB : i < B.length := by omega
  have hok := hB.ok.at_ hiB
  have hm : B.getD i [] ∈ B := by rw [List.getD_eq_getElem?_getD, List.getElem?_eq_getElem hiB]; exact List.getElem_mem hiB
  have hrow := bas_rows h hB hw _ hm
  have ht : ((B.getD i []).take g).length = g := by rw [List.length_take, hok.1]; omega
  have hta : AllB ((B.getD i []).take g) := hok.2.take g
  have hu : (B.getD i []).take g = vUnit g i := by
    refine vec_inj (ht.trans (tab_length _ _).symm) hta (vUnit_all g i) ?_
    rw [vec_unit hi]
    funext j
    by_cases hj : j < g
    · have e : vec ((B.getD i []).take g) j = fn B i j := by
        show byte (((B.getD i []).take g).getD j 0) = byte ((B.getD i []).getD j 0)
        rw [List.getD_eq_getElem?_getD, List.getElem?_take, if_pos hj, ← List.getD_eq_getElem?_getD]
      rw [e]
      by_cases hji : j = i
      · subst hji
        have := hr.one j hiB
        rw [hll j hj] at this
        rw [this, unitM, if_pos rfl]
      · have := hr.zero j i (by omega) hiB (fun e => hji e.symm)
        rw [hll j hj] at this
        rw [this, unitM, if_neg hji]
    · rw [vec_wide ht j (by omega), unitM, if_neg (by omega)]
  have e2 : (B.map (List.drop g)).getD i [] = payV g s M (vUnit g i) := by
    rw [List.getD_eq_getElem?_getD, List.getElem?_map, List.getElem?_eq_getElem hiB]
    show (B[i]).drop g = _
    have : B.getD i [] = B[i] := by rw [List.getD_eq_getElem?_getD, List.getElem?_eq_getElem hiB]; rfl
    rw [← this, hrow, rowV, hu, List.drop_append_of_le_length (by rw [vUnit, tab_length]; exact Nat.le_refl _), List.drop_of_length_le (by rw [vUnit, tab_length]; exact Nat.le_refl _), List.nil_append]
  rw [fn, e2, payV_eq h (vUnit_all g i), vec_rowN (vUnit_all g i) h, vec_unit hi, unit_mul laws hi]
end
end Go.Proofs.YtifopodnceopjaaGreatDoor
/- Rows reduced by columns, as lists: a row found, divided, wiped out of the others; what is reached. -/
namespace Go.Proofs.YtifopodnceopjaaGreatDoor
open Lin
end Go.Proofs.YtifopodnceopjaaGreatDoor
/- Rows with units behind them, reduced by their first columns: what that tells of the rows themselves. -/
namespace Go.Proofs.YtifopodnceopjaaGreatDoor
open Lin
end Go.Proofs.YtifopodnceopjaaGreatDoor
/- One basis of one span; rows told by what they have at the leads; a basis as a reduced matrix. -/
namespace Go.Proofs.YtifopodnceopjaaGreatDoor
open Lin
set_option linter.unusedVariables false
section
variable {g s : Nat} {M B C : List (List Nat)}
theorem vec_vComb {nc k : Nat} {N : List (List Nat)} {c : List Nat} (hN : Sz k nc N) (hc : AllB c) : vec (vComb nc N c k) = comb k (fn N) (vec c) := by
  rw [show vComb nc N c k = rowN c N k nc from tab_congr fun j _ => sumX_congr fun i hi => mul_comm' _ _ ((hN.at_ hi).2.getD j) (hc.getD i), vec_rowN hc hN]
theorem vComb_all {nc k : Nat} {N : List (List Nat)} {c : List Nat} (hN : Sz k nc N) (hc : AllB c) : AllB (vComb nc N c k) := by
  rw [show vComb nc N c k = rowN c N k nc from tab_congr fun j _ => sumX_congr fun i hi => mul_comm' _ _ ((hN.at_ hi).2.getD j) (hc.getD i)]
  exact rowN_all hc
theorem Bas.sz (h : Bas g s B) : Sz B.length (g + s) B := ⟨rfl, h.ok⟩
end
end Go.Proofs.YtifopodnceopjaaGreatDoor
/- Bytes in new memory (the document's own); bytes.Equal. -/
namespace Go.Proofs.YtifopodnceopjaaGreatDoor
open Go.RowKit
end Go.Proofs.YtifopodnceopjaaGreatDoor
/- The contract of the document's own product; sums and products whose answer has a name. -/
namespace Go.Proofs.YtifopodnceopjaaGreatDoor
open Go.RowKit

end Go.Proofs.YtifopodnceopjaaGreatDoor
/- Words for combinations (plain). -/
namespace Go.Proofs.YtifopodnceopjaaGreatDoor
open Go.RowKit
set_option linter.unusedVariables false
set_option linter.unusedSimpArgs false
theorem vUnit_set (n k : Nat) : (List.replicate n 0).set k 1 = vUnit n k := by
  refine list_ext (by simp [vUnit, tab_length]) fun i hi => ?_
  simp at hi
  rw [vUnit, tab_getD, if_pos hi, List.getD_eq_getElem?_getD, List.getElem?_set]
  by_cases e : k = i
  · subst e; simp [hi]
  · rw [if_neg e, if_neg (fun h => e h.symm)]; simp [hi]
open Go.RowKit

theorem vComb_zero (n : Nat) (rows : List (List Nat)) (c : List Nat) : vComb n rows c 0 = List.replicate n 0 := by
  refine list_ext (by simp [vComb, tab_length]) fun i hi => ?_
  rw [vComb, tab_length] at hi
  rw [vComb, tab_getD, if_pos hi, List.getD_eq_getElem?_getD, List.getElem?_replicate, if_pos hi]; rfl
theorem vComb_succ (n k : Nat) (rows : List (List Nat)) (c : List Nat) : vAddS n (vComb n rows c k) (rows.getD k []) (c.getD k 0) = vComb n rows c (k + 1) :=
  tab_congr fun i hi => by rw [vComb, tab_getD, if_pos hi]; rfl

/-- The combination, or that the rows don't fit. -/
def combOf (n : Nat) (rs : List RowV) (c : List Nat) : List Nat := if ∀ r ∈ rs, r.n = n then vComb n (rowsOf rs) c rs.length else []
def combErr (n : Nat) (rs : List RowV) : Int := if ∀ r ∈ rs, r.n = n then 0 else 21
end Go.Proofs.YtifopodnceopjaaGreatDoor
/- Slices of slices of bytes, made and stored to. -/
namespace Go.Proofs.YtifopodnceopjaaGreatDoor
open Go.RowKit
theorem run_make_rows {P : Program} {t e : TypeId} (ht : P.underlying t = some (.slice e)) (hi : (P.info? e).map (fun i => (i.zero, i.size, i.bytes)) = some (some (.slice none 0 0), 1, 24)) (n : Nat) (hn : n ≤ 1000000) (w : World) :
    (Instr.makeSlice t (.int .i64 (n : Int)) (.int .i64 (n : Int))).run P w = .ok (.slice (some ⟨w.heap.size, 0, none⟩) n n) (w.alloc (.cells (madeCells #[.slice none 0 0] n) e)) := by
  obtain ⟨i0, hi0, hz0, hz1, hz2⟩ := info_parts hi
  have h := run_make (P := P) w t e i0 (.slice none 0 0) ht hi0 hz0 .i64 .i64 n n (by omega) (Int.le_refl _) (by rw [hz2]; omega) (by omega)
  simpa [hz1, Value.cells] using h
theorem OwnRows.made (w : World) (e : TypeId) (n : Nat) (hn : n ≤ 1000000) : OwnRows (w.alloc (.cells (madeCells #[.slice none 0 0] n) e)) w.heap.size e (some ⟨w.heap.size, 0, none⟩) n n (List.replicate n ⟨none, 0, 0, []⟩) := by
  have h := World.ownsRow_lit (w := w) (base := w.heap.size) (e := e) (size := 1) (madeCells #[.slice none 0 0] n) n (Nat.le_refl _) (by unfold maxLen; omega) (by rw [size_madeCells]; simp)
  rw [toList_madeCells_one] at h
  simpa [OwnRows, RowV.val] using h
theorem OwnRows.stored {w : World} {base n c g i : Nat} {e : TypeId} {rs : List RowV} (h : OwnRows w base e (some ⟨g, 0, none⟩) n c rs) (r : RowV) : OwnRows (w.setCell ⟨g, i, none⟩ (.slice r.A r.n r.c)) base e (some ⟨g, 0, none⟩) n c (rs.set i r) := by
  have := World.ownsRow.stored h i (.slice r.A r.n r.c)
  unfold OwnRows
  rw [List.map_set]; exact this.1
end Go.Proofs.YtifopodnceopjaaGreatDoor
/- Contracts of the document's own answers of layer 7: rows, sums of bytes, what coefficients make of symbols. -/
namespace Go.Proofs.YtifopodnceopjaaGreatDoor
open Go.RowKit
set_option linter.unusedVariables false
set_option linter.unusedSimpArgs false
theorem infoRowSize : (Tryz.prog.info? 38).map (·.size) = some 2 := by kernel_rfl
end Go.Proofs.YtifopodnceopjaaGreatDoor
/- bytes.Equal. -/
namespace Go.Proofs.YtifopodnceopjaaGreatDoor
open Go.RowKit
theorem equal_any (B B' n m ca cb : Nat) (A A' : Option Addr) (xs ys : List Nat) (w : World) (h : Bytes w B A n xs) (h' : Bytes w B' A' m ys) :
    Calls Tryz.prog 36 #[.slice A n ca, .slice A' m cb] w fun e w' => e = .returned (.bool (decide (xs = ys))) ∧ w = w' := by
  have t1 := run_str h Tryz.underlying22 Tryz.underlying5 Tryz.underlying9 ca
  have t2 := run_str h' Tryz.underlying22 Tryz.underlying5 Tryz.underlying9 cb
  by_cases e : xs = ys
  · have b := strN_eq e
    rw [decide_eq_true e]
    go_enter Tryz.func36, Tryz.ntmps36
    go_wp2_with fail
    go_ret
    exact ⟨rfl, rfl⟩
  · have b := strN_ne h.all h'.all e
    rw [decide_eq_false e]
    go_enter Tryz.func36, Tryz.ntmps36
    go_wp2_with fail
    go_ret
    exact ⟨rfl, rfl⟩
end Go.Proofs.YtifopodnceopjaaGreatDoor
/- Rows in memory as matrices: words that no function of the document's own is needed for. -/
namespace Go.Proofs.YtifopodnceopjaaGreatDoor
open Go.RowKit Lin
set_option linter.unusedSimpArgs false
set_option linter.unusedVariables false
theorem infoRow : (Tryz.prog.info? 22).map (fun i => (i.zero, i.size, i.bytes)) = some (some (.slice none 0 0), 1, 24) := by kernel_rfl
theorem rowsXs_at {rs : List RowV} {k : Nat} {r : RowV} (h : rs[k]? = some r) : (rowsXs rs).getD k [] = r.xs := by
  simp [rowsXs, List.getD_eq_getElem?_getD, h]
theorem rowsXs_len (rs : List RowV) : (rowsXs rs).length = rs.length := by simp [rowsXs]
/-- What a call hands back that lays rows in new memory, and an error. -/
def NewRows (w : World) (M : List (List Nat)) (er : Int) (e : Ending) (w' : World) : Prop :=
  ∃ A n c, e = .returned (.tuple #[.slice A n c, .int .i64 er]) ∧ ∃ rs, RowsIn w' (fun b => w.heap.size ≤ b ∧ b < w'.heap.size) A n rs ∧ n ≤ c ∧ rowsXs rs = M ∧ Keep w w'
theorem NewRows.none_ (w : World) (er : Int) : NewRows w [] er (.returned (.tuple #[.slice none 0 0, .int .i64 er])) w := ⟨none, 0, 0, rfl, [], RowsIn.nothing _ _ _, Nat.le_refl _, rfl, Keep.refl w⟩
theorem ownrows_le {w : World} {base n c : Nat} {e : TypeId} {A : Option Addr} {rs : List RowV} (h : OwnRows w base e A n c rs) : n ≤ c := by
  rcases h.2 with ⟨hv, h0⟩ | ⟨g, cap, cur, hv, _, _, hle, _⟩
  · omega
  · injection hv with _ _ h3; omega
/-- Rows in new memory, being laid. -/
def Laying (W w : World) (A : Option Addr) (n c : Nat) (rs : List RowV) : Prop :=
  OwnRows w W.heap.size 22 A n c rs ∧ (∀ r ∈ rs, LiesIn w (fun b => W.heap.size ≤ b ∧ b < w.heap.size ∧ ¬ (Value.slice A n c).ownBlock = some b) r) ∧ Keep W w
namespace Laying
variable {W w w' : World} {A : Option Addr} {n c : Nat} {rs : List RowV}
theorem nothing (W : World) : Laying W W none 0 0 [] := ⟨OwnRows.none_ _ _ _, fun r hr => by simp at hr, Keep.refl W⟩
theorem later (h : Laying W w A n c rs) (k : Keep w w') : Laying W w' A n c rs :=
  ⟨h.1.keep k, fun r hr => ((h.2.1 r hr).turned (Turned.of_keep (F := fun _ => False) k) fun _ _ e => e).mono fun b hb => ⟨hb.1, Nat.lt_of_lt_of_le hb.2.1 k.size, hb.2.2⟩, h.2.2.trans k⟩
/-- A row more: its own block apart from the rows' block. -/
theorem more {A2 : Option Addr} {c2 : Nat} {r : RowV} {o : Obj} (h : Laying W w A n c rs) (hr : LiesIn w (fun b => W.heap.size ≤ b ∧ b < w.heap.size ∧ ¬ (Value.slice A n c).ownBlock = some b) r) (o2 : OwnRows w' W.heap.size 22 A2 (n + 1) c2 (rs ++ [r])) (k : (w.alloc o).grownBy w' (Value.slice A n c).ownBlock)
    (hb : (Value.slice A2 (n + 1) c2).ownBlock = (Value.slice A n c).ownBlock ∨ (Value.slice A2 (n + 1) c2).ownBlock = some (w.alloc o).heap.size) : Laying W w' A2 (n + 1) c2 (rs ++ [r]) := by
  have ka : Keep w (w.alloc o) := Below.alloc (Keep.refl w) (Nat.le_refl _) o
  have kT : Turned (fun b => (Value.slice A n c).ownBlock = some b) w w' := (Turned.of_keep ka).trans (Turned.of_grown (F := fun b => (Value.slice A n c).ownBlock = some b) k fun i e => e) fun i e => Or.inl e
  have kk : Keep W w' := kT.keep h.2.2 fun b e => h.1.rowLe b e
  refine ⟨o2, fun r' hr' => ?_, kk⟩
  have hall : ∀ r' ∈ rs ++ [r], LiesIn w (fun b => W.heap.size ≤ b ∧ b < w.heap.size ∧ ¬ (Value.slice A n c).ownBlock = some b) r' := fun r' hr' => by
    rw [List.mem_append, List.mem_singleton] at hr'
    rcases hr' with hr' | rfl
    · exact h.2.1 r' hr'
    · exact hr
  refine ((hall r' hr').turned kT fun b hb e => hb.2.2 e).mono fun b hb' => ⟨hb'.1, Nat.lt_of_lt_of_le hb'.2.1 kT.size, fun e => ?_⟩
  rcases hb with h1 | h1
  · rw [h1] at e; exact hb'.2.2 e
  · rw [h1] at e
    injection e with e
    have := ka.size
    simp at e; omega
end Laying
theorem RowsIn.ok {w : World} {F : Nat → Prop} {A : Option Addr} {n nc : Nat} {rs : List RowV} (h : RowsIn w F A n rs) (hn : ∀ r ∈ rs, r.n = nc) : RowsOk nc (rowsXs rs) := fun x hx => by
  obtain ⟨r, hr, rfl⟩ := List.mem_map.1 hx
  exact ⟨by rw [(h.2.1 r hr).1, hn r hr], (h.2.1 r hr).2.1⟩
end Go.Proofs.YtifopodnceopjaaGreatDoor
