/- Plain facts of layer 14's statements: what is sent, by a draw and by turns. -/
import Derived.Test.YtcjjhblgejkkeaaGreatBas
import Derived.Test.YtcjjhblgejkkeaaGreatRl
namespace Go.Proofs.YtcjjhblgejkkeaaGreat
open Lin
set_option linter.unusedVariables false
theorem within_one {row : List Nat} {B : List (List Nat)} {g : Nat} {S : Nat → Nat → By} (h : InSpan g S (vec row)) : Within [row].length (fn [row]) g S := fun i hi => by
  obtain rfl : i = 0 := by simp at hi; exact hi
  exact h
theorem comb_one (m k i : Nat) (R : List (List Nat)) (hR : AllB (R.getD i [])) (hl : (R.getD i []).length = m) (hi : i < k) : vComb m R (vUnit k i) k = R.getD i [] := by
  have e : vComb m R (vUnit k i) k = tab m fun j => (R.getD i []).getD j 0 := tab_congr fun j hj => by
    rw [vCombAt, sumX_one _ k i hi fun i' hi' hne => by rw [vUnit, tab_getD, if_pos hi', if_neg hne, mul_zero_right]]
    rw [vUnit, tab_getD, if_pos hi, if_pos rfl, mul_one_right _ (hR.getD j)]
  rw [e, ← hl, tab_self]
theorem coefN_all {n k : Nat} {xs : List Nat} (h : AllB xs) : AllB (coefN n k xs) := by
  unfold coefN
  split
  · exact vUnit_all n k
  · exact fillN_all h n
theorem coefN_none {n k : Nat} : coefN n k [] = vUnit n k := by
  rw [coefN, if_pos]
  refine vLead_neg fun i hi => ?_
  rw [fillN, List.getD_eq_getElem?_getD]
  simp [hi]
theorem coefN_some (n k : Nat) (xs : List Nat) (hk : k < n) : ¬ vLead n (coefN n k xs) < 0 := by
  unfold coefN
  split
  · rw [vLead_unit n k hk]; omega
  · assumption
section
variable {g s : Nat} {M B : List (List Nat)}
/-- What is sent lies in the span of the rows. -/
theorem send_in (hB : Bas g s B) {t : Nat} {xs : List Nat} (hx : AllB xs) : (sendN g s B t xs).length = g + s ∧ AllB (sendN g s B t xs) ∧ InSpan B.length (fn B) (vec (sendN g s B t xs)) :=
  ⟨tab_length _ _, vComb_all hB.sz (coefN_all hx), _, vec_vComb hB.sz (coefN_all hx)⟩
/-- Without a draw, the rows go by turns. -/
theorem send_turn (hB : Bas g s B) {t : Nat} (h0 : 0 < B.length) : sendN g s B t [] = B.getD (t % B.length) [] := by
  have hm := Nat.mod_lt t h0
  obtain ⟨a, b⟩ := hB.ok.at_ hm
  rw [sendN, coefN_none]
  exact comb_one (g + s) B.length (t % B.length) B b a hm
/-- It is told nothing, never. -/
theorem send_live (hB : Bas g s B) {t : Nat} {xs : List Nat} (hx : AllB xs) (h0 : 0 < B.length) : ¬ vLead g ((sendN g s B t xs).take g) < 0 := by
  intro h
  have hm := Nat.mod_lt t h0
  obtain ⟨hl, ha, hs⟩ := send_in hB (t := t) hx
  have hz : ∀ j, j < g → vec (sendN g s B t xs) j = 0 := fun j hj => by
    rw [vec_zero_iff ha]
    have := vLead_none h j hj
    rwa [List.getD_eq_getElem?_getD, List.getElem?_take, if_pos hj, ← List.getD_eq_getElem?_getD] at this
  have h1 := hB.inj _ hs hz
  have h2 : vec (sendN g s B t xs) = comb B.length (fn B) (vec (coefN B.length (t % B.length) xs)) := vec_vComb hB.sz (coefN_all hx)
  obtain ⟨l, hr, _⟩ := hB.leads
  have h3 := hr.free laws (vec (coefN B.length (t % B.length) xs)) fun j => by rw [← h2, h1]
  exact coefN_some B.length (t % B.length) xs hm (vLead_neg fun i hi => (vec_zero_iff (coefN_all hx) i).1 (h3 i hi))
/-- A true row is told by its coefficients: what is sent goes with the symbols. -/
theorem send_sym (h : Sz g s M) (hB : Bas g s B) (hw : Within B.length (fn B) g (symR g M)) {t : Nat} {xs : List Nat} (hx : AllB xs) : InSpan g (symR g M) (vec (sendN g s B t xs)) ∧ sendN g s B t xs = rowV g s M ((sendN g s B t xs).take g) := by
  obtain ⟨a, b, c⟩ := send_in hB (t := t) hx
  exact ⟨c.trans laws hw, symR_row h a b (c.trans laws hw)⟩
theorem basK_zero (T : List (List Nat)) : basK g s T 0 = [] := rfl
theorem basK_len {T : List (List Nat)} {k : Nat} (hk : k < T.length) : (basK g s T (k + 1)).length = (basK g s T k).length + (if inB g s (basK g s T k) (T.getD k []) then 0 else 1) := by
  rw [basK_succ hk, insB_len]
theorem basK_le {T : List (List Nat)} : ∀ k, k ≤ T.length → (basK g s T k).length ≤ k
  | 0, _ => by rw [basK_zero]; exact Nat.le_refl _
  | k + 1, h => by
    have ih := basK_le (T := T) k (by omega)
    rw [basK_len (by omega)]
    split <;> omega
theorem basK_ge {T : List (List Nat)} {n : Nat} (hn : n ≤ T.length) : ∀ j, j ≤ n → (basK g s T n).length ≤ (basK g s T (n - j)).length + j
  | 0, _ => by rw [Nat.sub_zero]; omega
  | j + 1, h => by
    have ih := basK_ge hn j (by omega)
    have e : n - j = n - (j + 1) + 1 := by omega
    rw [e, basK_len (by omega)] at ih
    split at ih <;> omega
/-- Rows by turns, from a place on. -/
def turnsT (B : List (List Nat)) (a : Nat) : List (List Nat) := (List.range B.length).map fun i => B.getD ((a + i) % B.length) []
theorem turnsT_len (B : List (List Nat)) (a : Nat) : (turnsT B a).length = B.length := by simp [turnsT]
theorem turnsT_at (B : List (List Nat)) (a : Nat) {i : Nat} (hi : i < B.length) : (turnsT B a).getD i [] = B.getD ((a + i) % B.length) [] := by
  rw [turnsT, List.getD_eq_getElem?_getD, List.getElem?_map, List.getElem?_range hi]; rfl
theorem turnsT_mem (B : List (List Nat)) (a : Nat) (x : List Nat) : x ∈ turnsT B a ↔ x ∈ B := by
  constructor
  · intro h
    obtain ⟨i, hi, rfl⟩ := List.mem_map.1 h
    have h0 : 0 < B.length := by have := List.mem_range.1 hi; omega
    have hm := Nat.mod_lt (a + i) h0
    rw [List.getD_eq_getElem?_getD, List.getElem?_eq_getElem hm]
    exact List.getElem_mem hm
  · intro h
    obtain ⟨j, hj, rfl⟩ := List.getElem_of_mem h
    have h0 : 0 < B.length := by omega
    refine List.mem_map.2 ⟨(j + (B.length - a % B.length)) % B.length, List.mem_range.2 (Nat.mod_lt _ h0), ?_⟩
    have hm := Nat.mod_lt a h0
    have e : (a + (j + (B.length - a % B.length)) % B.length) % B.length = j := by
      rw [Nat.add_mod_mod]
      have h1 := Nat.div_add_mod a B.length
      have e2 : a + (j + (B.length - a % B.length)) = j + B.length * (a / B.length + 1) := by
        rw [Nat.mul_add]
        omega
      rw [e2, Nat.add_mul_mod_self_left, Nat.mod_eq_of_lt hj]
    rw [e, List.getD_eq_getElem?_getD, List.getElem?_eq_getElem hj]; rfl
/-- As many rows by turns as there are bring all, each of them new. -/
theorem turns_all (hB : Bas g s B) (hw : Within B.length (fn B) g (symR g M)) (a : Nat) : SymRows g s M (turnsT B a) ∧ basK g s (turnsT B a) B.length = B ∧ ∀ j, j ≤ B.length → (basK g s (turnsT B a) j).length = j := by
  have hS : SymRows g s M (turnsT B a) := fun r hr => by
    have hr := (turnsT_mem B a r).1 hr
    obtain ⟨i, hi, rfl⟩ := List.getElem_of_mem hr
    have h1 := hB.ok _ (List.getElem_mem hi)
    have h2 := hw i hi
    have e : fn B i = vec B[i] := by show vec (B.getD i []) = _; rw [List.getD_eq_getElem?_getD, List.getElem?_eq_getElem hi]; rfl
    rw [e] at h2
    exact ⟨h1.1, h1.2, h2⟩
  have hk := basK_sym hS B.length (by rw [turnsT_len]; exact Nat.le_refl _)
  have e1 : (turnsT B a).take B.length = turnsT B a := List.take_of_length_le (by rw [turnsT_len]; exact Nat.le_refl _)
  have h3 := hk.2.2.1
  rw [e1] at h3
  have e2 : basK g s (turnsT B a) B.length = B := one_done hk.1 hB h3 (same_mem fun x => (turnsT_mem B a x).symm)
  refine ⟨hS, e2, fun j hj => ?_⟩
  have h4 := basK_le (g := g) (s := s) (T := turnsT B a) j (by rw [turnsT_len]; exact hj)
  have h5 := basK_ge (g := g) (s := s) (T := turnsT B a) (n := B.length) (by rw [turnsT_len]; exact Nat.le_refl _) (B.length - j) (by omega)
  rw [show B.length - (B.length - j) = j by omega, e2] at h5
  omega
/-- Rows that are the same, in any order and as often as one likes, have one basis. -/
theorem order_same {T U : List (List Nat)} (hT : SymRows g s M T) (hU : SymRows g s M U) (h : ∀ x, x ∈ T ↔ x ∈ U) : basK g s T T.length = basK g s U U.length := by
  have h1 := basK_sym hT T.length (Nat.le_refl _)
  have h2 := basK_sym hU U.length (Nat.le_refl _)
  have e1 := h1.2.2.1
  have e2 := h2.2.2.1
  rw [List.take_length] at e1 e2
  exact red_unique h1.1.red h2.1.red (e1.trans ((same_mem h).trans e2.symm))
end
end Go.Proofs.YtcjjhblgejkkeaaGreat
