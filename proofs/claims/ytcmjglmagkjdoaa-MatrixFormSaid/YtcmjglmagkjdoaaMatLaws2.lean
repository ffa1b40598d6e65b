/- What layer 6's answers are to one another: one form, ranks of rows together, solving (plain). -/
import Derived.Test.YtcmjglmagkjdoaaMatLaws
namespace Go.Proofs.Ytcmjglmagkjdoaa
open Lin
theorem within_mem {A B : List (List Nat)} (h : ∀ r ∈ A, r ∈ B) : Within A.length (fn A) B.length (fn B) := fun i hi => by
  obtain ⟨j, hj, e⟩ := List.getElem_of_mem (h _ (List.getElem_mem hi))
  have e2 : fn A i = fn B j := by rw [fn, fn, List.getD_eq_getElem?_getD, List.getElem?_eq_getElem hi, List.getD_eq_getElem?_getD, List.getElem?_eq_getElem hj, e]
  rw [e2]; exact InSpan.row laws (fn B) hj
theorem same_mem {A B : List (List Nat)} (h : ∀ r, r ∈ A ↔ r ∈ B) : SameSpan A B := ⟨within_mem fun r hr => (h r).1 hr, within_mem fun r hr => (h r).2 hr⟩
section
variable {r c s n : Nat} {M N R : List (List Nat)}
theorem Sz.mem (h : Sz r c M) {N : List (List Nat)} (hm : ∀ x ∈ N, x ∈ M) : Sz N.length c N := ⟨rfl, fun x hx => h.2 x (hm x hx)⟩
theorem Sz.get_mem (h : Sz r c M) {i : Nat} (hi : i < r) : M.getD i [] ∈ M := by
  rw [List.getD_eq_getElem?_getD, List.getElem?_eq_getElem (by rw [h.1]; exact hi)]; exact List.getElem_mem _
theorem Sz.append (h : Sz r c M) (k : Sz s c N) : Sz (r + s) c (M ++ N) := ⟨by rw [List.length_append, h.1, k.1], fun x hx => by
  rcases List.mem_append.1 hx with e | e
  · exact h.2 x e
  · exact k.2 x e⟩
theorem Sz.one {v : List Nat} (hl : v.length = c) (ha : AllB v) : Sz 1 c [v] := ⟨rfl, fun x hx => by simp at hx; subst hx; exact ⟨hl, ha⟩⟩
theorem Sz.set (h : Sz r c M) {i : Nat} {v : List Nat} (hl : v.length = c) (ha : AllB v) : Sz r c (M.set i v) := ⟨by rw [List.length_set, h.1], fun x hx => by
  rcases List.mem_or_eq_of_mem_set hx with e | rfl
  · exact h.2 x e
  · exact ⟨hl, ha⟩⟩
theorem red_sz (h : Sz r c M) : Sz (rk M) c (reduceN M) := ⟨rfl, (red_of h).1.1⟩
/-- Rows in another order. -/
theorem form_turned (h : Sz r c M) (k : Nat) : Sz r c (M.drop k ++ M.take k) ∧ reduceN (M.drop k ++ M.take k) = reduceN M := by
  have hm : ∀ x, x ∈ M.drop k ++ M.take k ↔ x ∈ M := fun x => by
    rw [List.mem_append, or_comm, ← List.mem_append, List.take_append_drop]
  have hs : Sz r c (M.drop k ++ M.take k) := ⟨by rw [List.length_append, List.length_drop, List.length_take, h.1]; omega, fun x hx => h.2 x ((hm x).1 hx)⟩
  exact ⟨hs, reduce_same hs h (same_mem hm)⟩
/-- A row twice. -/
theorem form_twice (h : Sz r c M) {k : Nat} (hk : k < r) : Sz (r + 1) c (M ++ [M.getD k []]) ∧ reduceN (M ++ [M.getD k []]) = reduceN M := by
  have hs : Sz (r + 1) c (M ++ [M.getD k []]) := h.append (Sz.one (h.at_ hk).1 (h.at_ hk).2)
  refine ⟨hs, reduce_same hs h (same_mem fun x => ?_)⟩
  rw [List.mem_append, List.mem_singleton]
  exact ⟨fun e => e.elim id fun e => e ▸ h.get_mem hk, Or.inl⟩
theorem fn_set (h : Sz r c M) {a i : Nat} {v : List Nat} (ha : a < r) : fn (M.set a v) i = if i = a then vec v else fn M i := by
  rw [fn, List.getD_eq_getElem?_getD, List.getElem?_set]
  by_cases e : i = a
  · subst e; rw [if_pos rfl, if_pos rfl, if_pos (by rw [h.1]; exact ha)]; rfl
  · rw [if_neg (fun e2 => e e2.symm), if_neg e, ← List.getD_eq_getElem?_getD]; rfl
/-- A row added to another. -/
theorem form_added (h : Sz r c M) {a b x : Nat} (ha : a < r) (hb : b < r) (hne : a ≠ b) (hx : x < 256) : Sz r c (M.set a (vAddS c (M.getD a []) (M.getD b []) x)) ∧ SameSpan (M.set a (vAddS c (M.getD a []) (M.getD b []) x)) M := by
  have hA := h.at_ ha
  have hB := h.at_ hb
  refine ⟨h.set (tab_length _ _) (vAddS_all hA.2 hB.2), ?_⟩
  have key := span_clear laws (m := r) (R := fn M) (S := fn (M.set a (vAddS c (M.getD a []) (M.getD b []) x))) hb (by rw [fn_set h ha, if_neg (fun e => hne e.symm)]) (fun k => if k = a then byte x else 0) (fun k _ _ j => by
    rw [fn_set h ha]
    by_cases e : k = a
    · subst e
      rw [if_pos rfl, if_pos rfl, vec_vAddS hA.1 hB.1 hA.2 hB.2 hx]; rfl
    · rw [if_neg e, if_neg e, laws.zero_mul, laws.add_zero])
  unfold SameSpan
  rw [List.length_set, h.1]
  exact key
/-- A row scaled. -/
theorem form_scaled (h : Sz r c M) {a x : Nat} (ha : a < r) (hx : x < 256) (h0 : x ≠ 0) : Sz r c (M.set a (vScale c (M.getD a []) x)) ∧ SameSpan (M.set a (vScale c (M.getD a []) x)) M := by
  have hA := h.at_ ha
  refine ⟨h.set (tab_length _ _) (vScale_all hA.2), ?_⟩
  have hb : byte x ≠ 0 := fun e => h0 (by have := congrArg By.v e; rwa [byte_v hx] at this)
  have key := span_scale laws (m := r) (r := a) (R := fn M) (S := fn (M.set a (vScale c (M.getD a []) x))) (a := byte x) ha hb (fun i _ hi => by rw [fn_set h ha, if_neg hi]) (fun j => by rw [fn_set h ha, if_pos rfl, vec_vScale hA.1 hA.2 hx]; rfl)
  unfold SameSpan
  rw [List.length_set, h.1]
  exact key
/-- The reduced matrix is its own. -/
theorem form_own (h : Sz r c M) : reduceN (reduceN M) = reduceN M := reduce_same (red_sz h) h (red_of h).2
/-- With the rows behind it, its rank. -/
theorem form_rank (h : Sz r c M) : Sz (rk M + r) c (reduceN M ++ M) ∧ rk (reduceN M ++ M) = rk M := by
  have hs := (red_sz h).append h
  refine ⟨hs, ?_⟩
  have e := reduce_same hs h ⟨within_append (red_of h).2.1 (Within.refl laws _ _), within_right⟩
  unfold rk; rw [e]
/-- The leads of the reduced matrix. -/
theorem form_leads (h : Sz r c M) : ∃ l : Nat → Nat, (∀ i, i < rk M → vLead c ((reduceN M).getD i []) = (l i : Int) ∧ l i < c) ∧ (∀ i j, i < j → j < rk M → l i < l j) ∧ (∀ i, i < rk M → ((reduceN M).getD i []).getD (l i) 0 = 1) ∧ ∀ i k, i < rk M → k < rk M → i ≠ k → ((reduceN M).getD k []).getD (l i) 0 = 0 := by
  obtain ⟨⟨hok, l, hl⟩, _⟩ := red_of h
  have hv : ∀ k, k < rk M → ∀ j, (fn (reduceN M) k j).v = ((reduceN M).getD k []).getD j 0 := fun k hk j => vec_v (hok.at_ hk).2 j
  refine ⟨l, fun i hi => red_lead hok hl hi, hl.inc, fun i hi => ?_, fun i k hi hk hne => ?_⟩
  · rw [← hv i hi, hl.one i hi]; rfl
  · rw [← hv k hk, hl.zero i k hi hk hne.symm]; rfl
/-- Each row, cleared by the reduced matrix, is nought. -/
theorem form_clears (h : Sz r c M) {i : Nat} (hi : i < r) : ∀ j, (clearTo c (reduceN M) (M.getD i []) (rk M)).getD j 0 = 0 := fun j => by
  obtain ⟨⟨hok, l, hl⟩, hs⟩ := red_of h
  have hA := h.at_ hi
  have e := vec_clearTo hok hl hA.1 hA.2 (rk M) (Nat.le_refl _)
  have hz := (clearSeq_span laws hl (vec (M.getD i []))).1 (hs.2 i (by rw [h.1]; exact hi))
  have h2 : vec (clearTo c (reduceN M) (M.getD i []) (rk M)) j = 0 := by rw [e]; exact congrFun hz j
  have := congrArg By.v h2
  rwa [vec_v (clearTo_all hok hA.2 (rk M) (Nat.le_refl _))] at this
end
section
variable {r c s n : Nat} {M N O : List (List Nat)}
theorem rk_mono (h : Sz r c M) (k : Sz s c N) (hw : Within M.length (fn M) N.length (fn N)) : rk M ≤ rk N := by
  rw [h.1, k.1] at hw
  exact rank_mono laws hw (rk_has h) (rk_has k)
theorem rk_within (h : Sz r c M) (hw : Within M.length (fn M) N.length (fn N)) : rk M ≤ N.length := by
  rw [h.1] at hw
  exact rank_le laws hw (rk_has h)
/-- The rank of two matrices' rows together. -/
theorem rk_append (h : Sz r c M) (k : Sz s c N) : rk (M ++ N) ≤ rk M + rk N ∧ rk M ≤ rk (M ++ N) ∧ rk N ≤ rk (M ++ N) := by
  refine ⟨?_, rk_mono h (h.append k) within_left, rk_mono k (h.append k) within_right⟩
  have := rk_within (h.append k) (N := reduceN M ++ reduceN N) (same_append (red_of h).2 (red_of k).2).2
  rwa [List.length_append] at this
/-- Of their sum. -/
def sumN (c : Nat) (M N : List (List Nat)) (k : Nat) : List (List Nat) := (List.range k).map fun i => vAdd c (M.getD i []) (N.getD i [])
theorem sumN_succ (c : Nat) (M N : List (List Nat)) (k : Nat) : sumN c M N (k + 1) = sumN c M N k ++ [vAdd c (M.getD k []) (N.getD k [])] := by simp [sumN, List.range_succ]
theorem vAdd_all {n : Nat} {xs ys : List Nat} (hx : AllB xs) (hy : AllB ys) : AllB (vAdd n xs ys) := fun x hm => by
  obtain ⟨i, _, rfl⟩ := List.mem_map.1 hm
  exact xor_lt (hx.getD i) (hy.getD i)
theorem sum_sz (h : Sz r c M) (k : Sz r c N) : Sz r c (sumN c M N r) := ⟨by simp [sumN], fun x hx => by
  obtain ⟨i, hi, rfl⟩ := List.mem_map.1 hx
  have hi := List.mem_range.1 hi
  exact ⟨tab_length _ _, vAdd_all (h.at_ hi).2 (k.at_ hi).2⟩⟩
theorem rk_sum (h : Sz r c M) (k : Sz r c N) : rk (sumN c M N r) ≤ rk M + rk N := by
  have hw : Within (sumN c M N r).length (fn (sumN c M N r)) (reduceN M ++ reduceN N).length (fn (reduceN M ++ reduceN N)) := fun i hi => by
    rw [(sum_sz h k).1] at hi
    have e : fn (sumN c M N r) i = fun j => fn M i j + fn N i j := funext fun j => by
      have e1 : (sumN c M N r).getD i [] = vAdd c (M.getD i []) (N.getD i []) := by rw [sumN, List.getD_eq_getElem?_getD, List.getElem?_map, List.getElem?_range hi]; rfl
      apply By.ext
      rw [fn, e1, vec_v (vAdd_all (h.at_ hi).2 (k.at_ hi).2), add_v]
      show _ = (vec (M.getD i []) j).v ^^^ (vec (N.getD i []) j).v
      rw [vec_v (h.at_ hi).2, vec_v (k.at_ hi).2, vAdd, tab_getD]
      by_cases hj : j < c
      · rw [if_pos hj]
      · rw [if_neg hj, List.getD_eq_getElem?_getD, List.getElem?_eq_none (by rw [(h.at_ hi).1]; omega), List.getD_eq_getElem?_getD, List.getElem?_eq_none (by rw [(k.at_ hi).1]; omega)]; rfl
    rw [e]
    have hs := same_append (red_of h).2 (red_of k).2
    have w1 : Within M.length (fn M) (reduceN M ++ reduceN N).length (fn (reduceN M ++ reduceN N)) := (red_of h).2.2.trans laws within_left
    have w2 : Within N.length (fn N) (reduceN M ++ reduceN N).length (fn (reduceN M ++ reduceN N)) := (red_of k).2.2.trans laws within_right
    exact InSpan.add laws (w1 i (by rw [h.1]; exact hi)) (w2 i (by rw [k.1]; exact hi))
  have := rk_within (sum_sz h k) hw
  rwa [List.length_append] at this
/-- A row less. -/
theorem rk_less (h : Sz r c M) {k : Nat} (hk : k < r) : Sz (r - 1) c (M.take k ++ M.drop (k + 1)) ∧ rk (M.take k ++ M.drop (k + 1)) ≤ rk M ∧ rk M ≤ rk (M.take k ++ M.drop (k + 1)) + 1 := by
  have hs : Sz (r - 1) c (M.take k ++ M.drop (k + 1)) := ⟨by rw [List.length_append, List.length_take, List.length_drop, h.1]; omega, fun x hx => by
    rcases List.mem_append.1 hx with e | e
    · exact h.2 x (List.mem_of_mem_take e)
    · exact h.2 x (List.mem_of_mem_drop e)⟩
  refine ⟨hs, rk_mono hs h (within_mem fun x hx => ?_), ?_⟩
  · rcases List.mem_append.1 hx with e | e
    · exact List.mem_of_mem_take e
    · exact List.mem_of_mem_drop e
  · have hw : Within M.length (fn M) (reduceN (M.take k ++ M.drop (k + 1)) ++ [M.getD k []]).length (fn (reduceN (M.take k ++ M.drop (k + 1)) ++ [M.getD k []])) := by
      have w1 : Within M.length (fn M) ((M.take k ++ M.drop (k + 1)) ++ [M.getD k []]).length (fn ((M.take k ++ M.drop (k + 1)) ++ [M.getD k []])) := within_mem fun x hx => by
        obtain ⟨i, hi, e⟩ := List.getElem_of_mem hx
        rw [List.mem_append, List.mem_append, List.mem_singleton]
        rcases Nat.lt_trichotomy i k with h1 | h1 | h1
        · refine Or.inl (Or.inl ?_)
          rw [← e, List.mem_iff_getElem?]
          exact ⟨i, by rw [List.getElem?_take_of_lt h1, List.getElem?_eq_getElem hi]⟩
        · refine Or.inr ?_
          rw [← e, List.getD_eq_getElem?_getD, ← h1, List.getElem?_eq_getElem hi]; rfl
        · refine Or.inl (Or.inr ?_)
          rw [← e, List.mem_iff_getElem?]
          exact ⟨i - (k + 1), by rw [List.getElem?_drop, show k + 1 + (i - (k + 1)) = i by omega, List.getElem?_eq_getElem hi]⟩
      exact w1.trans laws (same_append (red_of hs).2 (SameSpan.refl _)).2
    have := rk_within h hw
    rwa [List.length_append] at this
end
section
variable {n : Nat} {M : List (List Nat)} {row : List Nat}
theorem prod_one (x : List Nat) (N : List (List Nat)) (n c : Nat) : prodN [x] N n c 1 = [rowN x N n c] := rfl
theorem comb_row (h : Sz n n M) (ha : AllB row) : vComb n M row n = rowN row M n n := tab_congr fun j _ => sumX_congr fun i hi => mul_comm' _ _ ((h.at_ hi).2.getD j) (ha.getD i)
/-- What is made is undone. -/
theorem solves (h : Sz n n M) (hn : 1 ≤ n) (hr : rk M = n) (hl : row.length = n) (ha : AllB row) :
    mulV [row] (invV M) = [rowN row (invV M) n n] ∧ mulE [row] (invV M) = 0 ∧ mulV [rowN row (invV M) n n] M = [row] ∧ mulE [rowN row (invV M) n n] M = 0 ∧ rowN (rowN row M n n) (invV M) n n = row := by
  have h1 : Sz 1 n [row] := Sz.one hl ha
  obtain ⟨hV, e⟩ := inv_left h hn hr
  have e2 := inv_right h hn hr
  have hx : Sz 1 n [rowN row (invV M) n n] := Sz.one (tab_length _ _) (rowN_all ha)
  have a := mulV_eq h1 hV (by omega) hn
  have b := mulV_eq hx h (by omega) hn
  refine ⟨a.1, a.2, ?_, b.2, ?_⟩
  · rw [b.1]
    have := prod_assoc h1 hV h
    rw [e, prod_id h1] at this
    exact this
  · have := prod_assoc h1 h hV
    rw [e2, prod_id h1] at this
    exact List.head_eq_of_cons_eq this
end
end Go.Proofs.Ytcmjglmagkjdoaa
