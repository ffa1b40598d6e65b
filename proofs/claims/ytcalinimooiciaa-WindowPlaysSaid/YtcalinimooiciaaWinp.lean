/- A window's numbers, plainly: what is in it, what goes, slots. -/
import Derived.Test.YtcalinimooiciaaMem
namespace Go.Proofs.Ytcalinimooiciaa
set_option linter.unusedVariables false
/-- All numbers end here. -/
def topN : Nat := 1099511627776
/-- Where a window of base b and width k ends. -/
def endN (b k : Nat) : Nat := min (b + k) topN
/-- What is in it, rising. -/
def winL (b k : Nat) : List Nat := List.range' b (endN b k - b)
def winIn (b k n : Nat) : Bool := decide (b ≤ n) && decide (n < endN b k)
/-- What is in it, and not in another one of the same width. -/
def winGone (b k c : Nat) : List Nat := (winL b k).filter fun n => !winIn c k n
theorem winL_length (b k : Nat) : (winL b k).length = endN b k - b := by simp [winL]
theorem winL_le (b k : Nat) : (winL b k).length ≤ k := by rw [winL_length, endN]; omega
theorem winL_get (b k i : Nat) (h : i < endN b k - b) : (winL b k)[i]? = some (b + i) := by
  rw [winL, List.getElem?_range' h, Nat.one_mul]
theorem winIn_iff (b k n : Nat) : winIn b k n = true ↔ b ≤ n ∧ n < endN b k := by simp [winIn]
theorem winIn_mem (b k n : Nat) : winIn b k n = decide (n ∈ winL b k) := by
  rw [Bool.eq_iff_iff, winIn_iff, decide_eq_true_eq, winL, List.mem_range'_1]
  omega
theorem winIn_at (b k i : Nat) (h : i < endN b k - b) : winIn b k (b + i) = true := by rw [winIn_iff]; omega
/-- The number behind the first i. -/
theorem first_succ (b i : Nat) : List.range' b (i + 1) = List.range' b i ++ [b + i] := by
  rw [List.range'_concat, Nat.one_mul]
theorem winL_first (b k i : Nat) (h : i ≤ endN b k - b) : (winL b k).take i = List.range' b i := by
  refine List.ext_getElem? fun j => ?_
  rw [winL, List.getElem?_take]
  rcases Nat.lt_or_ge j i with h1 | h1
  · rw [if_pos h1, List.getElem?_range' (by omega), List.getElem?_range' h1]
  · rw [if_neg (by omega), List.getElem?_eq_none (by simpa using h1)]
theorem winL_succ (b i : Nat) (h : b + i < topN) : winL b (i + 1) = winL b i ++ [b + i] := by
  have e1 : endN b (i + 1) - b = i + 1 := by rw [endN]; omega
  have e2 : endN b i - b = i := by rw [endN]; omega
  rw [winL, winL, e1, e2, first_succ]
theorem winL_more (b i : Nat) (h : ¬ b + i < topN) : winL b (i + 1) = winL b i := by
  have e : endN b (i + 1) = endN b i := by rw [endN, endN]; omega
  rw [winL, winL, e]
theorem winL_none (b : Nat) : winL b 0 = [] := by
  have e : endN b 0 - b = 0 := by rw [endN]; omega
  rw [winL, e]; rfl
/-- What has gone of the first i. -/
def goneN (b k c i : Nat) : List Nat := (List.range' b i).filter fun n => !winIn c k n
theorem goneN_zero (b k c : Nat) : goneN b k c 0 = [] := rfl
theorem goneN_in (b k c i : Nat) (h : winIn c k (b + i) = true) : goneN b k c (i + 1) = goneN b k c i := by
  rw [goneN, first_succ, List.filter_append, ← goneN]; simp [h]
theorem goneN_out (b k c i : Nat) (h : winIn c k (b + i) = false) : goneN b k c (i + 1) = goneN b k c i ++ [b + i] := by
  rw [goneN, first_succ, List.filter_append, ← goneN]; simp [h]
theorem goneN_all (b k c : Nat) : goneN b k c (endN b k - b) = winGone b k c := rfl
theorem goneN_le (b k c i : Nat) : (goneN b k c i).length ≤ i := by
  refine Nat.le_trans (List.length_filter_le _ _) ?_
  simp
theorem winGone_le (b k c : Nat) : (winGone b k c).length ≤ k := Nat.le_trans (List.length_filter_le _ _) (winL_le b k)
/-- The number that has gone at i stands where as many have gone before. -/
theorem goneN_get (b k c : Nat) : ∀ (m i : Nat), i < m → winIn c k (b + i) = false → (goneN b k c m)[(goneN b k c i).length]? = some (b + i)
  | 0, i, h, _ => by omega
  | m + 1, i, h, hi => by
    rcases Nat.lt_or_ge i m with h1 | h1
    · have ih := goneN_get b k c m i h1 hi
      cases e : winIn c k (b + m) with
      | true => rw [goneN_in _ _ _ _ e]; exact ih
      | false =>
        rw [goneN_out _ _ _ _ e]
        have hl : (goneN b k c i).length < (goneN b k c m).length := by
          rcases Nat.lt_or_ge (goneN b k c i).length (goneN b k c m).length with h2 | h2
          · exact h2
          · rw [List.getElem?_eq_none h2] at ih; cases ih
        rw [List.getElem?_append_left hl]; exact ih
    · obtain rfl : i = m := by omega
      rw [goneN_out _ _ _ _ hi, List.getElem?_append_right (Nat.le_refl _), Nat.sub_self]; rfl
/-- Slots taken by the first i. -/
def takenL (b k i : Nat) : List Bool := (List.range 16).map fun s => (List.range' b i).any fun n => n % k == s
theorem takenL_length (b k i : Nat) : (takenL b k i).length = 16 := by simp [takenL]
theorem takenL_zero (b k : Nat) : takenL b k 0 = List.replicate 16 false := by
  refine List.ext_getElem? fun s => ?_
  rw [takenL, List.getElem?_map, List.getElem?_replicate]
  rcases Nat.lt_or_ge s 16 with h | h
  · rw [List.getElem?_range h, if_pos h]; rfl
  · rw [if_neg (by omega), List.getElem?_eq_none (by simpa using h)]; rfl
theorem takenL_get (b k i s : Nat) (h : s < 16) : (takenL b k i)[s]? = some ((List.range' b i).any fun n => n % k == s) := by
  rw [takenL, List.getElem?_map, List.getElem?_range h]; rfl
theorem takenL_succ (b k i : Nat) : (takenL b k i).set ((b + i) % k) true = takenL b k (i + 1) := by
  refine List.ext_getElem? fun s => ?_
  rcases Nat.lt_or_ge s 16 with h | h
  · rw [takenL_get _ _ _ _ h, first_succ, List.any_append, List.getElem?_set]
    by_cases e : (b + i) % k = s
    · rw [if_pos e, if_pos (by rw [takenL_length]; omega)]
      simp [e]
    · rw [if_neg e, takenL_get _ _ _ _ h]
      simp [e]
  · rw [List.getElem?_eq_none (by rw [List.length_set, takenL_length]; omega), List.getElem?_eq_none (by rw [takenL_length]; omega)]
theorem takenL_free (b k i : Nat) (hk : i < k) (h16 : k ≤ 16) : (takenL b k i)[(b + i) % k]? = some false := by
  have hm : (b + i) % k < k := Nat.mod_lt _ (by omega)
  rw [takenL_get _ _ _ _ (by omega)]
  congr 1
  rw [Bool.eq_false_iff]
  intro hx
  obtain ⟨n, hn, he⟩ := List.any_eq_true.1 hx
  rw [List.mem_range'_1] at hn
  have he : n % k = (b + i) % k := by simpa using he
  have h1 := Nat.sub_mod_eq_zero_of_mod_eq he.symm
  rw [Nat.mod_eq_of_lt (by omega)] at h1
  omega
theorem winL_nil_of_top (k : Nat) : winL topN k = [] := by
  have e : endN topN k - topN = 0 := by rw [endN]; omega
  rw [winL, e]; rfl
/-- The document's end: the base, and as many as are in. -/
theorem end_count (b k : Nat) (hb : b ≤ topN) : b + (winL b k).length = endN b k := by
  rw [winL_length, endN]; omega
end Go.Proofs.Ytcalinimooiciaa
