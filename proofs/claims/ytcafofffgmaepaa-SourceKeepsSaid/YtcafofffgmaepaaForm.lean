/- Numbers' forms to the base 256, as lists of numbers. -/
import Derived.Test.YtcafofffgmaepaaBytes
namespace Go.Proofs.Ytcafofffgmaepaa

/-- The s lowest digits of n, the highest first. -/
def formN (s n : Nat) : List Nat := (List.range s).map fun i => n / 256 ^ (s - 1 - i) % 256
theorem formN_length (s n : Nat) : (formN s n).length = s := by simp [formN]
theorem formN_all (s n : Nat) : AllB (formN s n) := fun x hx => by
  obtain ⟨i, _, rfl⟩ := List.mem_map.1 hx
  exact Nat.mod_lt _ (by decide)
theorem formN_get (s n i : Nat) (hi : i < s) : (formN s n).getD i 0 = n / 256 ^ (s - 1 - i) % 256 := by
  rw [List.getD_eq_getElem?_getD]; simp [formN, hi]
/-- The last digit, and those ahead of it. -/
theorem formN_succ (s n : Nat) : formN (s + 1) n = formN s (n / 256) ++ [n % 256] := by
  apply List.ext_getElem?
  intro i
  rcases Nat.lt_trichotomy i s with h | h | h
  · rw [List.getElem?_append_left (by rw [formN_length]; exact h)]
    simp only [formN, List.getElem?_map, List.getElem?_range (show i < s + 1 by omega), List.getElem?_range h, Option.map_some]
    congr 1
    rw [Nat.div_div_eq_div_mul, show s + 1 - 1 - i = (s - 1 - i) + 1 by omega, Nat.pow_succ, Nat.mul_comm]
  · subst h
    rw [List.getElem?_append_right (by rw [formN_length]; exact Nat.le_refl _), formN_length]
    simp [formN]
  · rw [List.getElem?_eq_none (by rw [formN_length]; omega), List.getElem?_eq_none (by rw [List.length_append, formN_length]; simp; omega)]
/-- What digits say. -/
def valN (l : List Nat) : Nat := l.foldl (fun a x => 256 * a + x) 0
theorem valN_snoc (l : List Nat) (x : Nat) : valN (l ++ [x]) = 256 * valN l + x := by simp [valN]
theorem valN_form (s n : Nat) : valN (formN s n) = n % 256 ^ s := by
  induction s generalizing n with
  | zero => simp [formN, valN, Nat.mod_one]
  | succ s ih =>
    rw [formN_succ, valN_snoc, ih, Nat.pow_succ, Nat.mul_comm (256 ^ s) 256, Nat.mod_mul]
    omega
theorem list_snoc {P : List Nat → Prop} (h0 : P []) (hs : ∀ l x, P l → P (l ++ [x])) (l : List Nat) : P l := by
  rw [← List.reverse_reverse l]
  induction l.reverse with
  | nil => simpa using h0
  | cons x t ih => rw [List.reverse_cons]; exact hs _ _ ih
theorem valN_lt (l : List Nat) : AllB l → valN l < 256 ^ l.length := by
  induction l using list_snoc with
  | h0 => simp [valN]
  | hs l x ih =>
    intro h
    rw [valN_snoc, List.length_append, List.length_singleton, Nat.pow_succ]
    have h1 := ih fun y hy => h y (by simp [hy])
    have h2 := h x (by simp)
    omega
theorem form_val (l : List Nat) : AllB l → formN l.length (valN l) = l := by
  induction l using list_snoc with
  | h0 => intro _; rfl
  | hs l x ih =>
    intro h
    have h2 := h x (by simp)
    rw [valN_snoc, List.length_append, List.length_singleton, formN_succ]
    have e1 : (256 * valN l + x) / 256 = valN l := by omega
    have e2 : (256 * valN l + x) % 256 = x := by omega
    rw [e1, e2, ih fun y hy => h y (by simp [hy])]
theorem valN_take_succ (l : List Nat) (i : Nat) (hi : i < l.length) : valN (l.take (i + 1)) = 256 * valN (l.take i) + l.getD i 0 := by
  rw [List.take_add_one, List.getElem?_eq_getElem hi]
  simp only [Option.toList_some, valN_snoc]
  rw [List.getD_eq_getElem?_getD, List.getElem?_eq_getElem hi]; rfl
/-- The form while it is laid from behind: its last j digits, noughts ahead. -/
def laidN (s n j : Nat) : List Nat := (List.range s).map fun i => if s - j ≤ i then n / 256 ^ (s - 1 - i) % 256 else 0
theorem laidN_length (s n j : Nat) : (laidN s n j).length = s := by simp [laidN]
theorem laidN_zero (s n : Nat) : laidN s n 0 = List.replicate s 0 := by
  apply List.ext_getElem?
  intro i
  rcases Nat.lt_or_ge i s with h | h
  · simp only [laidN, List.getElem?_map, List.getElem?_range h, Option.map_some, List.getElem?_replicate, if_pos h]
    rw [if_neg (by omega)]
  · rw [List.getElem?_eq_none (by rw [laidN_length]; omega), List.getElem?_eq_none (by simp; omega)]
theorem laidN_all (s n : Nat) : laidN s n s = formN s n := by
  simp only [laidN, formN]
  refine List.map_congr_left fun i hi => ?_
  rw [if_pos (by omega)]
theorem laidN_set (s n j : Nat) (hj : j < s) : (laidN s n j).set (s - 1 - j) (n / 256 ^ j % 256) = laidN s n (j + 1) := by
  apply List.ext_getElem?
  intro i
  rw [List.getElem?_set, laidN_length]
  rcases Nat.lt_or_ge i s with h | h
  · simp only [laidN, List.getElem?_map, List.getElem?_range h, Option.map_some]
    by_cases e : s - 1 - j = i
    · rw [if_pos e, if_pos (by omega), if_pos (by omega), show s - 1 - i = j by omega]
    · rw [if_neg e]
      by_cases h1 : s - j ≤ i
      · rw [if_pos h1, if_pos (by omega)]
      · rw [if_neg h1, if_neg (by omega)]
  · rw [if_neg (by omega)]
    simp [laidN, h]
theorem set_append_right (xs ys : List Nat) (i v : Nat) : (xs ++ ys).set (xs.length + i) v = xs ++ ys.set i v := by
  rw [List.set_append_right _ _ (by omega), Nat.add_sub_cancel_left]
end Go.Proofs.Ytcafofffgmaepaa
