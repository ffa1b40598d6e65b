/- Vectors over the field, as lists of numbers: sums, products, leads, units, combinations; that they are a space. -/
import Derived.Test.YtcjjhblgejkkeaaGreatPlain
namespace Go.Proofs.YtcjjhblgejkkeaaGreat

/-- n numbers, number i what f makes of i. -/
def tab (n : Nat) (f : Nat → Nat) : List Nat := (List.range n).map f
theorem tab_length (n : Nat) (f : Nat → Nat) : (tab n f).length = n := by simp [tab]
theorem tab_succ (n : Nat) (f : Nat → Nat) : tab (n + 1) f = tab n f ++ [f n] := by simp [tab, List.range_succ]
theorem tab_zero (f : Nat → Nat) : tab 0 f = [] := rfl
theorem tab_getD (n : Nat) (f : Nat → Nat) (i : Nat) : (tab n f).getD i 0 = if i < n then f i else 0 := by
  rw [List.getD_eq_getElem?_getD]
  by_cases h : i < n
  · simp [tab, h]
  · rw [if_neg h, List.getElem?_eq_none (by rw [tab_length]; omega)]; rfl
theorem tab_congr {n : Nat} {f g : Nat → Nat} (h : ∀ i, i < n → f i = g i) : tab n f = tab n g := by
  induction n with
  | zero => rfl
  | succ n ih => rw [tab_succ, tab_succ, ih fun i hi => h i (by omega), h n (by omega)]
theorem tab_self (xs : List Nat) : tab xs.length (fun i => xs.getD i 0) = xs := by
  apply List.ext_getElem?
  intro i
  by_cases h : i < xs.length
  · rw [List.getElem?_eq_getElem h]
    simp [tab, h]
  · rw [List.getElem?_eq_none (by rw [tab_length]; omega), List.getElem?_eq_none (by omega)]
theorem list_ext {xs ys : List Nat} (hl : xs.length = ys.length) (h : ∀ i, i < xs.length → xs.getD i 0 = ys.getD i 0) : xs = ys := by
  rw [← tab_self xs, ← tab_self ys, ← hl]
  exact tab_congr h

/-- The sum of the first n of f. -/
def sumX (f : Nat → Nat) : Nat → Nat
  | 0 => 0
  | n + 1 => sumX f n ^^^ f n
theorem sumX_lt (f : Nat → Nat) (n : Nat) (h : ∀ i, i < n → f i < 256) : sumX f n < 256 := by
  induction n with
  | zero => exact (by decide : 0 < 256)
  | succ n ih => exact xor_lt (ih fun i hi => h i (by omega)) (h n (by omega))
theorem sumX_congr {f g : Nat → Nat} {n : Nat} (h : ∀ i, i < n → f i = g i) : sumX f n = sumX g n := by
  induction n with
  | zero => rfl
  | succ n ih => rw [sumX, sumX, ih fun i hi => h i (by omega), h n (by omega)]
theorem sumX_xor (f g : Nat → Nat) (n : Nat) : sumX (fun i => f i ^^^ g i) n = sumX f n ^^^ sumX g n := by
  induction n with
  | zero => simp [sumX]
  | succ n ih => rw [sumX, sumX, sumX, ih, xor_swap]
theorem sumX_mul (f : Nat → Nat) (c n : Nat) (h : ∀ i, i < n → f i < 256) : sumX (fun i => mulN (f i) c) n = mulN (sumX f n) c := by
  induction n with
  | zero => exact (mul_zero_left c).symm
  | succ n ih => rw [sumX, sumX, ih fun i hi => h i (by omega), mul_xor_left _ _ _ (sumX_lt f n fun i hi => h i (by omega)) (h n (by omega))]
theorem sumX_zero (n : Nat) : sumX (fun _ => 0) n = 0 := by
  induction n with
  | zero => rfl
  | succ n ih => rw [sumX, ih]; rfl
theorem sumX_one (f : Nat → Nat) (n k : Nat) (hk : k < n) (h : ∀ i, i < n → i ≠ k → f i = 0) : sumX f n = f k := by
  induction n with
  | zero => omega
  | succ n ih =>
    rw [sumX]
    by_cases e : k = n
    · subst e
      rw [sumX_congr (g := fun _ => 0) fun i hi => h i (by omega) (by omega), sumX_zero, Nat.zero_xor]
    · rw [ih (by omega) fun i hi hne => h i (by omega) hne, h n (by omega) (fun e2 => e e2.symm), Nat.xor_zero]
theorem sumX_swap (f : Nat → Nat → Nat) (m n : Nat) : sumX (fun i => sumX (fun j => f i j) n) m = sumX (fun j => sumX (fun i => f i j) m) n := by
  induction m with
  | zero => exact (sumX_zero n).symm
  | succ m ih => rw [sumX, ih, ← sumX_xor]; rfl

/-- The calls, as the chapter tells them. -/
def vAddS (n : Nat) (xs ys : List Nat) (c : Nat) : List Nat := tab n fun i => xs.getD i 0 ^^^ mulN (ys.getD i 0) c
def vAdd (n : Nat) (xs ys : List Nat) : List Nat := tab n fun i => xs.getD i 0 ^^^ ys.getD i 0
def vScale (n : Nat) (xs : List Nat) (c : Nat) : List Nat := tab n fun i => mulN (xs.getD i 0) c
def vDot (n : Nat) (xs ys : List Nat) : Nat := sumX (fun i => mulN (xs.getD i 0) (ys.getD i 0)) n
/-- The least place from k on, of the first n. -/
def vLeadTo (xs : List Nat) : Nat → Option Nat
  | 0 => none
  | n + 1 => match vLeadTo xs n with
    | some i => some i
    | none => if xs.getD n 0 = 0 then none else some n
def vLead (n : Nat) (xs : List Nat) : Int := match vLeadTo xs n with
  | some i => (i : Int)
  | none => -1
def vUnit (n k : Nat) : List Nat := tab n fun i => if i = k then 1 else 0
/-- The first k rows, each multiplied with its number: number j. -/
def vCombAt (rows : List (List Nat)) (c : List Nat) (k j : Nat) : Nat := sumX (fun i => mulN ((rows.getD i []).getD j 0) (c.getD i 0)) k
def vComb (n : Nat) (rows : List (List Nat)) (c : List Nat) (k : Nat) : List Nat := tab n (vCombAt rows c k)

theorem vLeadTo_none (xs : List Nat) (n : Nat) : vLeadTo xs n = none ↔ ∀ i, i < n → xs.getD i 0 = 0 := by
  induction n with
  | zero => exact ⟨fun _ i hi => by omega, fun _ => rfl⟩
  | succ n ih =>
    constructor
    · intro h
      rw [vLeadTo] at h
      cases h1 : vLeadTo xs n with
      | some k => rw [h1] at h; cases h
      | none =>
        rw [h1] at h
        have h2 := ih.1 h1
        intro i hi
        by_cases e : i = n
        · subst e
          by_cases hz : xs.getD i 0 = 0
          · exact hz
          · rw [if_neg hz] at h; cases h
        · exact h2 i (by omega)
    · intro h
      have h1 := ih.2 fun i hi => h i (by omega)
      rw [vLeadTo, h1, if_pos (h n (by omega))]
theorem vLeadTo_some (xs : List Nat) (n : Nat) : ∀ k, vLeadTo xs n = some k ↔ k < n ∧ xs.getD k 0 ≠ 0 ∧ ∀ i, i < k → xs.getD i 0 = 0 := by
  induction n with
  | zero => exact fun k => ⟨fun h => by simp [vLeadTo] at h, fun h => absurd h.1 (by omega)⟩
  | succ n ih' =>
    intro k
    rw [vLeadTo]
    cases h1 : vLeadTo xs n with
    | some j =>
      have h2 := (ih' j).1 h1
      constructor
      · intro h
        injection h with h
        subst h
        exact ⟨by omega, h2.2⟩
      · intro h
        have : k = j := by
          rcases Nat.lt_trichotomy k j with h3 | h3 | h3
          · exact absurd (h2.2.2 k h3) h.2.1
          · exact h3
          · exact absurd (h.2.2 j h3) h2.2.1
        rw [this]
    | none =>
      have h2 := (vLeadTo_none xs n).1 h1
      constructor
      · intro h
        by_cases hz : xs.getD n 0 = 0
        · rw [if_pos hz] at h; cases h
        · rw [if_neg hz] at h
          injection h with h
          subst h
          exact ⟨by omega, hz, h2⟩
      · intro h
        have : k = n := by
          by_cases e : k < n
          · exact absurd (h2 k e) h.2.1
          · omega
        subst this
        rw [if_neg h.2.1]
end Go.Proofs.YtcjjhblgejkkeaaGreat
