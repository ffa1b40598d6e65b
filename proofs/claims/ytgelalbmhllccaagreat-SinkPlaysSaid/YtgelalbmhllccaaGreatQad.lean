/- A row put into a reduced matrix: it is reduced, and spans what both span. -/
import Derived.Test.YtgelalbmhllccaaGreatQac
import Derived.Test.YtgelalbmhllccaaGreatQaa
import Derived.OwnWalk
import Derived.Test.YtgelalbmhllccaaGreatProg
import Derived.Test.YtgelalbmhllccaaGreatQab
import Derived.WalkKit
import Derived.Lib.Hide
import Derived.OneCell
namespace Go.Proofs.YtgelalbmhllccaaGreat
open Lin
/-- The lead that a reduced matrix's row has. -/
theorem red_lead {nc : Nat} {M : List (List Nat)} {l : Nat → Nat} (hM : RowsOk nc M) (hr : Red M.length (fn M) l) {k : Nat} (hk : k < M.length) : vLead nc (M.getD k []) = (l k : Int) ∧ l k < nc := by
  have hw := hM.at_ hk
  have hl : l k < nc := hr.lead_lt laws hM.wide hk
  have h1 : (M.getD k []).getD (l k) 0 = 1 := by
    have := congrArg By.v (hr.one k hk)
    rw [show (fn M k (l k)).v = (M.getD k []).getD (l k) 0 from vec_v hw.2 _] at this
    exact this
  have h0 : ∀ j, j < l k → (M.getD k []).getD j 0 = 0 := fun j hj => by
    have := congrArg By.v (hr.low k j hk hj)
    rw [show (fn M k j).v = (M.getD k []).getD j 0 from vec_v hw.2 _] at this
    exact this
  have e : vLeadTo (M.getD k []) nc = some (l k) := (vLeadTo_some _ nc _).2 ⟨hl, by rw [h1]; decide, h0⟩
  exact ⟨by rw [vLead, e], hl⟩
theorem vec_vAddS {n c : Nat} {xs ys : List Nat} (hx : xs.length = n) (hy : ys.length = n) (hxa : AllB xs) (hya : AllB ys) (hc : c < 256) : vec (vAddS n xs ys c) = fun j => vec xs j + byte c * vec ys j := by
  funext j
  apply By.ext
  rw [vec_v (vAddS_all hxa hya), vAddS, tab_getD, add_v, mul_v, vec_v hxa, vec_v hya, byte_v hc, mul_comm' c _ hc (hya.getD j)]
  by_cases h : j < n
  · rw [if_pos h]
  · rw [if_neg h, List.getD_eq_getElem?_getD, List.getElem?_eq_none (by omega), List.getD_eq_getElem?_getD, List.getElem?_eq_none (by omega)]
    show 0 = 0 ^^^ mulN 0 c
    rw [mul_zero_left]; rfl
theorem vec_vScale {n c : Nat} {xs : List Nat} (hx : xs.length = n) (hxa : AllB xs) (hc : c < 256) : vec (vScale n xs c) = fun j => byte c * vec xs j := by
  funext j
  apply By.ext
  rw [vec_v (vScale_all hxa), vScale, tab_getD, mul_v, vec_v hxa, byte_v hc, mul_comm' c _ hc (hxa.getD j)]
  by_cases h : j < n
  · rw [if_pos h]
  · rw [if_neg h, List.getD_eq_getElem?_getD, List.getElem?_eq_none (by omega)]
    show 0 = mulN 0 c
    rw [mul_zero_left]
theorem clearTo_all {nc : Nat} {M : List (List Nat)} {row : List Nat} (hM : RowsOk nc M) (hr : AllB row) : ∀ k, k ≤ M.length → AllB (clearTo nc M row k)
  | 0, _ => hr
  | k + 1, h => vAddS_all (clearTo_all hM hr k (by omega)) (hM.at_ (show k < M.length by omega)).2
/-- What is cleared row by row, as rows over the field. -/
theorem vec_clearTo {nc : Nat} {M : List (List Nat)} {row : List Nat} {l : Nat → Nat} (hM : RowsOk nc M) (hr : Red M.length (fn M) l) (hrow : row.length = nc) (hra : AllB row) : ∀ k, k ≤ M.length → vec (clearTo nc M row k) = clearSeq (fn M) l (vec row) k
  | 0, _ => rfl
  | k + 1, h => by
    have ih := vec_clearTo hM hr hrow hra k (by omega)
    have hk : k < M.length := by omega
    have ha := clearTo_all hM hra k (by omega)
    have hw := hM.at_ hk
    show vec (vAddS nc _ _ _) = _
    rw [vec_vAddS (clearTo_len nc M row hrow k) hw.1 ha hw.2 (ha.getD _), (red_lead hM hr hk).1, Int.toNat_natCast]
    funext j
    show vec (clearTo nc M row k) j + byte ((clearTo nc M row k).getD (l k) 0) * fn M k j = clearSeq (fn M) l (vec row) k j + clearSeq (fn M) l (vec row) k (l k) * fn M k j
    rw [← ih]
    rfl
/-- The other rows, cleared at the new lead. -/
def clearedL (nc : Nat) (M : List (List Nat)) (u : List Nat) (L : Nat) : List (List Nat) := M.map fun m => vAddS nc m u (m.getD L 0)
theorem take_map_succ (nc : Nat) (M : List (List Nat)) (u : List Nat) (L k : Nat) (hk : k < M.length) : (clearedL nc M u L).take (k + 1) = (clearedL nc M u L).take k ++ [vAddS nc (M.getD k []) u ((M.getD k []).getD L 0)] := by
  rw [List.take_add_one, clearedL, List.getElem?_map, List.getElem?_eq_getElem hk, List.getD_eq_getElem?_getD, List.getElem?_eq_getElem hk]; rfl
theorem layTo_eq {nc : Nat} {M : List (List Nat)} {u : List Nat} {L q : Nat} (hq : q ≤ M.length) (hlo : ∀ i, i < q → ¬ (L : Int) < vLead nc (M.getD i [])) (hhi : q < M.length → (L : Int) < vLead nc (M.getD q [])) :
    ∀ k, k ≤ M.length → layTo nc M u L k = if k ≤ q then ((clearedL nc M u L).take k, false) else ((clearedL nc M u L).take q ++ [u] ++ ((clearedL nc M u L).take k).drop q, true)
  | 0, _ => by rw [if_pos (Nat.zero_le _)]; rfl
  | k + 1, h => by
    have ih := layTo_eq (u := u) hq hlo hhi k (by omega)
    have hk : k < M.length := by omega
    have hl : (clearedL nc M u L).length = M.length := by simp [clearedL]
    rw [layTo, ih, take_map_succ nc M u L k hk]
    by_cases h1 : k < q
    · rw [if_pos (show k ≤ q by omega), if_pos (show k + 1 ≤ q by omega)]
      have e : decide ((L : Int) < vLead nc (M.getD k [])) = false := decide_eq_false (hlo k h1)
      simp only [e, Bool.and_false, Bool.or_false, if_neg (show ¬ (false = true) by decide)]
    · by_cases h2 : k = q
      · subst h2
        rw [if_pos (Nat.le_refl _), if_neg (show ¬ k + 1 ≤ k by omega)]
        have e : decide ((L : Int) < vLead nc (M.getD k [])) = true := decide_eq_true (hhi hk)
        have hd : ((clearedL nc M u L).take k ++ [vAddS nc (M.getD k []) u ((M.getD k []).getD L 0)]).drop k = [vAddS nc (M.getD k []) u ((M.getD k []).getD L 0)] := by
          rw [List.drop_append_of_le_length (by rw [List.length_take]; omega), List.drop_of_length_le (by rw [List.length_take]; omega)]; rfl
        simp only [e, Bool.not_false, Bool.and_self, if_pos, Bool.false_or, hd]
      · rw [if_neg (show ¬ k ≤ q by omega), if_neg (show ¬ k + 1 ≤ q by omega)]
        simp only [Bool.not_true, Bool.false_and, if_neg (show ¬ (false = true) by decide), Bool.true_or]
        rw [List.drop_append_of_le_length (by rw [List.length_take]; omega), List.append_assoc _ (((clearedL nc M u L).take k).drop q)]
theorem red_congr {r : Nat} {R S : Nat → Nat → By} {l m : Nat → Nat} (h : Red r R l) (he : ∀ i, i < r → R i = S i) (hl : ∀ i, i < r → l i = m i) : Red r S m :=
  ⟨fun i j hij hj => by rw [← hl i (by omega), ← hl j hj]; exact h.inc i j hij hj, fun i hi => by rw [← he i hi, ← hl i hi]; exact h.one i hi, fun i k hi hk hne => by rw [← he k hk, ← hl i hi]; exact h.zero i k hi hk hne, fun i j hi hj => by rw [← he i hi]; rw [← hl i hi] at hj; exact h.low i j hi hj⟩
theorem place {l : Nat → Nat} {L : Nat} : ∀ r, (∀ i j, i < j → j < r → l i < l j) → (∀ i, i < r → l i ≠ L) → ∃ q, q ≤ r ∧ (∀ i, i < q → l i < L) ∧ ∀ i, q ≤ i → i < r → L < l i
  | 0, _, _ => ⟨0, Nat.le_refl _, fun i hi => by omega, fun i _ hi => by omega⟩
  | r + 1, hinc, hne => by
    obtain ⟨q, h1, h2, h3⟩ := place r (fun i j hij hj => hinc i j hij (by omega)) fun i hi => hne i (by omega)
    by_cases e : q = r
    · subst e
      rcases Nat.lt_or_ge (l q) L with h | h
      · exact ⟨q + 1, Nat.le_refl _, fun i hi => by
          by_cases e : i = q
          · subst e; exact h
          · exact h2 i (by omega), fun i a b => by omega⟩
      · exact ⟨q, by omega, h2, fun i a b => by
          obtain rfl : i = q := by omega
          have := hne i (by omega); omega⟩
    · exact ⟨q, by omega, h2, fun i a b => by
        by_cases e2 : i = r
        · subst e2
          have := h3 q (Nat.le_refl _) (by omega)
          have := hinc q i (by omega) (by omega)
          omega
        · exact h3 i a (by omega)⟩
theorem fn_append_row (M : List (List Nat)) (row : List Nat) : ∀ i, i < M.length + 1 → fn (M ++ [row]) i = insM M.length (fn M) (vec row) i := fun i hi => by
  by_cases e : i < M.length
  · rw [insM_lt e, fn, fn, List.getD_eq_getElem?_getD, List.getD_eq_getElem?_getD, List.getElem?_append_left e]
  · obtain rfl : i = M.length := by omega
    rw [insM_at, fn, List.getD_eq_getElem?_getD, List.getElem?_append_right (Nat.le_refl _), Nat.sub_self]; rfl
theorem fn_insert (C : List (List Nat)) (u : List Nat) (q : Nat) (hq : q ≤ C.length) : ∀ i, i < C.length + 1 → fn (C.take q ++ [u] ++ C.drop q) i = insM q (fn C) (vec u) i := fun i hi => by
  have hl : (C.take q).length = q := by rw [List.length_take]; omega
  have hl2 : (C.take q ++ [u]).length = q + 1 := by rw [List.length_append, hl]; rfl
  rw [fn, List.getD_eq_getElem?_getD]
  rcases Nat.lt_trichotomy i q with e | e | e
  · rw [insM_lt e, fn, List.getD_eq_getElem?_getD, List.getElem?_append_left (by omega), List.getElem?_append_left (by omega), List.getElem?_take, if_pos e]
  · subst e
    rw [insM_at, List.getElem?_append_left (by omega), List.getElem?_append_right (by omega), hl, Nat.sub_self]; rfl
  · rw [insM_gt e, fn, List.getD_eq_getElem?_getD, List.getElem?_append_right (by omega), hl2, List.getElem?_drop]
    congr 3; omega
theorem insertN_red {nc : Nat} {M : List (List Nat)} {row : List Nat} (hM : RedL nc M) (hrow : row.length = nc) (hra : AllB row) : RedL nc (insertN nc M row) ∧ SameSpan (insertN nc M row) (M ++ [row]) := by
  obtain ⟨hok, l, hr⟩ := hM
  have hv := vec_clearTo hok hr hrow hra M.length (Nat.le_refl _)
  have hva := clearTo_all hok hra M.length (Nat.le_refl _)
  have hvl := clearTo_len nc M row hrow M.length
  have hsame : ∀ {N : List (List Nat)} {S : Nat → Nat → By}, N.length = M.length + 1 → (∀ i, i < M.length + 1 → fn N i = S i) → Within (M.length + 1) S (M.length + 1) (insM M.length (fn M) (vec row)) ∧ Within (M.length + 1) (insM M.length (fn M) (vec row)) (M.length + 1) S → SameSpan N (M ++ [row]) := fun {N S} hN he hw => by
    have hA : (M ++ [row]).length = M.length + 1 := by simp
    have e1 := within_congr laws (r := M.length + 1) he
    have e1' := within_congr laws (r := M.length + 1) fun i hi => (he i hi).symm
    have e2 := within_congr laws (r := M.length + 1) (fn_append_row M row)
    have e2' := within_congr laws (r := M.length + 1) fun i hi => (fn_append_row M row i hi).symm
    rw [SameSpan, hN, hA]
    exact ⟨(e1.trans laws hw.1).trans laws e2', (e2.trans laws hw.2).trans laws e1'⟩
  by_cases hlead : vLead nc (clearTo nc M row M.length) < 0
  · have hI : insertN nc M row = M := by rw [insertN]; exact if_pos hlead
    rw [hI]
    refine ⟨⟨hok, l, hr⟩, ?_⟩
    have hz : ∀ i, i < nc → (clearTo nc M row M.length).getD i 0 = 0 := by
      refine (vLeadTo_none _ nc).1 ?_
      unfold vLead at hlead
      split at hlead
      · omega
      · assumption
    have h0 : clearSeq (fn M) l (vec row) M.length = fun _ => 0 := by
      rw [← hv]
      funext j
      apply By.ext
      rw [vec_v hva]
      rcases Nat.lt_or_ge j nc with h | h
      · exact hz j h
      · rw [List.getD_eq_getElem?_getD, List.getElem?_eq_none (by omega)]; rfl
    have hin := (clearSeq_span laws hr (vec row)).2 h0
    have hm := within_more laws hin
    have hA : (M ++ [row]).length = M.length + 1 := by simp
    have e2 := within_congr laws (r := M.length + 1) (fn_append_row M row)
    have e2' := within_congr laws (r := M.length + 1) fun i hi => (fn_append_row M row i hi).symm
    rw [SameSpan, hA]
    exact ⟨hm.2.trans laws e2', e2.trans laws hm.1⟩
  · obtain ⟨L, hL⟩ : ∃ L, vLeadTo (clearTo nc M row M.length) nc = some L := by
      unfold vLead at hlead
      split at hlead
      · exact ⟨_, by assumption⟩
      · omega
    obtain ⟨hLn, hL0, hLz⟩ := (vLeadTo_some _ nc L).1 hL
    have hvL : vLead nc (clearTo nc M row M.length) = (L : Int) := by rw [vLead, hL]
    obtain ⟨v, hvv⟩ : ∃ v, clearTo nc M row M.length = v := ⟨_, rfl⟩
    obtain ⟨u, hu⟩ : ∃ u, vScale nc v (invN (v.getD L 0)) = u := ⟨_, rfl⟩
    rw [hvv] at hv hva hvl hL0 hLz hvL
    have ha := invN_lt (v.getD L 0)
    have hwu : vec u = fun j => byte (invN (v.getD L 0)) * vec v j := by rw [← hu]; exact vec_vScale hvl hva ha
    have hvn : ∀ i, i < M.length → vec v (l i) = 0 := fun i hi => by rw [hv]; exact clearSeq_nought laws hr (vec row) hi
    have hne : ∀ i, i < M.length → l i ≠ L := fun i hi e => hL0 (by
      have := congrArg By.v (hvn i hi)
      rw [vec_v hva, e] at this; exact this)
    obtain ⟨q, hq, hqlo, hqhi⟩ := place M.length hr.inc hne
    have hpos : 1 ≤ v.getD L 0 := by omega
    have hw1 : vec u L = 1 := by
      rw [hwu]; apply By.ext
      show mulN (byte (invN (v.getD L 0))).v (vec v L).v = 1
      rw [byte_v ha, vec_v hva, mul_comm' _ _ ha (hva.getD L), mul_inv _ (hva.getD L) hpos]
    have hwlow : ∀ j, j < L → vec u j = 0 := fun j hj => by
      rw [hwu]
      have : vec v j = 0 := By.ext (by rw [vec_v hva]; exact hLz j hj)
      show byte _ * vec v j = 0
      rw [this, laws.mul_zero]
    have hwz : ∀ i, i < M.length → vec u (l i) = 0 := fun i hi => by
      rw [hwu]
      show byte _ * vec v (l i) = 0
      rw [hvn i hi, laws.mul_zero]
    have hane : byte (invN (v.getD L 0)) ≠ 0 := fun e => by
      have h1 := congrArg By.v hw1
      rw [hwu] at h1
      have h2 : (byte (invN (v.getD L 0)) * vec v L) = 0 := by rw [e, laws.zero_mul]
      rw [show (fun j => byte (invN (v.getD L 0)) * vec v j) L = 0 from h2] at h1
      cases h1
    have hred := insert_red laws hr hq hqlo hqhi hwz hw1 hwlow
    have hspan := insert_span laws (R := fn M) (L := L) (w := vec u) (v := vec row) (c := fun i => vec row (l i)) hq hane (fun j => by
      rw [hwu]
      show byte _ * vec v j = byte _ * (vec row j + comb M.length (fn M) (fun i => vec row (l i)) j)
      rw [hv, clearSeq_eq laws hr (vec row) (Nat.le_refl _)])
    have hua : AllB u := by rw [← hu]; exact vScale_all hva
    have hul : u.length = nc := by rw [← hu]; exact tab_length _ _
    have hC : (clearedL nc M u L).length = M.length := by simp [clearedL]
    have hlay := layTo_eq (nc := nc) (M := M) (u := u) (L := L) hq (fun i hi e => by
        rw [(red_lead hok hr (show i < M.length by omega)).1] at e
        have := hqlo i hi; omega) (fun h => by
        rw [(red_lead hok hr h).1]
        have := hqhi q (Nat.le_refl _) h; omega) M.length (Nat.le_refl _)
    have hI : insertN nc M row = (clearedL nc M u L).take q ++ [u] ++ (clearedL nc M u L).drop q := by
      have e0 : insertN nc M row = if (layTo nc M u L M.length).2 = true then (layTo nc M u L M.length).1 else (layTo nc M u L M.length).1 ++ [u] := by
        rw [insertN, hvv]
        show (if vLead nc v < 0 then _ else _) = _
        rw [hvL, if_neg (by omega)]
        show (if (layTo nc M (vScale nc v (invN (v.getD ((L : Int)).toNat 0))) ((L : Int)).toNat M.length).2 = true then _ else _) = _
        rw [Int.toNat_natCast, hu]
      have hall : (clearedL nc M u L).take M.length = clearedL nc M u L := List.take_of_length_le (by omega)
      rw [e0, hlay]
      by_cases hqr : M.length ≤ q
      · obtain rfl : q = M.length := by omega
        rw [if_pos (Nat.le_refl _), if_neg (fun e => Bool.noConfusion e), List.drop_of_length_le (by omega), List.append_nil]
      · rw [if_neg hqr, if_pos rfl, hall]
    have hCfn : ∀ i, i < M.length → fn (clearedL nc M u L) i = clearM (fn M) L (vec u) i := fun i hi => by
      have hw := hok.at_ hi
      rw [fn, clearedL, List.getD_eq_getElem?_getD, List.getElem?_map, List.getElem?_eq_getElem hi]
      have e : M.getD i [] = M[i] := by rw [List.getD_eq_getElem?_getD, List.getElem?_eq_getElem hi]; rfl
      show vec (vAddS nc M[i] u (M[i].getD L 0)) = _
      rw [← e, vec_vAddS hw.1 hul hw.2 hua (hw.2.getD L)]
      rfl
    have hfn : ∀ i, i < M.length + 1 → fn (insertN nc M row) i = insM q (clearM (fn M) L (vec u)) (vec u) i := fun i hi => by
      rw [hI, fn_insert _ _ _ (by omega) i (by omega)]
      rcases Nat.lt_trichotomy i q with e | e | e
      · rw [insM_lt e, insM_lt e, hCfn i (by omega)]
      · subst e; rw [insM_at, insM_at]
      · rw [insM_gt e, insM_gt e, hCfn (i - 1) (by omega)]
    have hlen : (insertN nc M row).length = M.length + 1 := by
      rw [hI]; simp [hC]; omega
    refine ⟨⟨fun x hx => ?_, insM q l L, ?_⟩, hsame hlen hfn hspan⟩
    · rw [hI] at hx
      have hCm : ∀ y ∈ clearedL nc M u L, y.length = nc ∧ AllB y := fun y hy => by
        obtain ⟨m, hm, rfl⟩ := List.mem_map.1 hy
        exact ⟨tab_length _ _, vAddS_all (hok m hm).2 hua⟩
      simp only [List.mem_append, List.mem_singleton] at hx
      rcases hx with (hx | rfl) | hx
      · exact hCm x (List.mem_of_mem_take hx)
      · exact ⟨hul, hua⟩
      · exact hCm x (List.mem_of_mem_drop hx)
    · rw [hlen]; exact red_congr hred (fun i hi => (hfn i hi).symm) fun i hi => rfl
/-- Rows, put in one by one. -/
def reduceTo (nc : Nat) (M : List (List Nat)) (k : Nat) : List (List Nat) := (M.take k).foldl (insertN nc) []
theorem redL_nil (nc : Nat) : RedL nc [] := ⟨fun r hr => by simp at hr, fun _ => 0, ⟨fun i j _ hj => by simp at hj, fun i hi => by simp at hi, fun i k hi => by simp at hi, fun i j hi => by simp at hi⟩⟩
end Go.Proofs.YtgelalbmhllccaaGreat
/- A basis: rows of coefficients and payload, side by side, reduced as they come. -/
namespace Go.Proofs.YtgelalbmhllccaaGreat
open Lin
/-- What the rows leave of one. -/
def leftB (nc : Nat) (B : List (List Nat)) (row : List Nat) : List Nat := clearTo nc B row B.length
/-- A row is put in, if it is new. -/
def insB (g s : Nat) (B : List (List Nat)) (row : List Nat) : List (List Nat) := if vLead g (leftB (g + s) B row) < 0 then B else insertN (g + s) B row
/-- A basis of g and s: reduced, each row with its lead among the coefficients. -/
structure Bas (g s : Nat) (B : List (List Nat)) : Prop where
  red : RedL (g + s) B
  inj : ∀ x : Nat → By, InSpan B.length (fn B) x → (∀ j, j < g → x j = 0) → x = fun _ => 0
theorem Bas.nil (g s : Nat) : Bas g s [] := ⟨redL_nil _, fun x h _ => by
  obtain ⟨c, rfl⟩ := h
  rfl⟩
theorem vLead_some {n : Nat} {xs : List Nat} (h : ¬ vLead n xs < 0) : ∃ L, vLeadTo xs n = some L ∧ vLead n xs = (L : Int) := by
  unfold vLead at h ⊢
  split at h
  · next i e => exact ⟨i, e, rfl⟩
  · omega
theorem vLead_neg {n : Nat} {xs : List Nat} (h : ∀ i, i < n → xs.getD i 0 = 0) : vLead n xs < 0 := by
  rw [vLead, (vLeadTo_none xs n).2 h]; decide
theorem vLead_at {n L : Nat} {xs : List Nat} (hL : L < n) (h0 : xs.getD L 0 ≠ 0) (hz : ∀ j, j < L → xs.getD j 0 = 0) : vLead n xs = (L : Int) := by
  rw [vLead, (vLeadTo_some xs n L).2 ⟨hL, h0, hz⟩]
theorem vLead_less {g nc : Nat} {xs : List Nat} (hg : g ≤ nc) (h : ¬ vLead g xs < 0) : vLead nc xs = vLead g xs := by
  obtain ⟨L, h1, h2⟩ := vLead_some h
  obtain ⟨a, b, c⟩ := (vLeadTo_some xs g L).1 h1
  rw [h2]; exact vLead_at (by omega) b c
theorem left_len {nc : Nat} {B : List (List Nat)} {row : List Nat} (h : row.length = nc) : (leftB nc B row).length = nc := clearTo_len nc B row h _
theorem left_all {nc : Nat} {B : List (List Nat)} {row : List Nat} (hB : RowsOk nc B) (h : AllB row) : AllB (leftB nc B row) := clearTo_all hB h _ (Nat.le_refl _)
/-- What is left, as rows over the field. -/
theorem left_vec {nc : Nat} {B : List (List Nat)} {row : List Nat} {l : Nat → Nat} (hB : RowsOk nc B) (hr : Red B.length (fn B) l) (hl : row.length = nc) (ha : AllB row) : vec (leftB nc B row) = fun j => vec row j + comb B.length (fn B) (fun i => vec row (l i)) j := by
  rw [leftB, vec_clearTo hB hr hl ha _ (Nat.le_refl _), clearSeq_eq laws hr _ (Nat.le_refl _)]
theorem left_nought {nc : Nat} {B : List (List Nat)} {row : List Nat} {l : Nat → Nat} (hB : RowsOk nc B) (hr : Red B.length (fn B) l) (hl : row.length = nc) (ha : AllB row) {i : Nat} (hi : i < B.length) : vec (leftB nc B row) (l i) = 0 := by
  rw [left_vec hB hr hl ha]; exact cleared laws hr _ hi
namespace Bas
variable {g s : Nat} {B : List (List Nat)}
theorem ok (h : Bas g s B) : RowsOk (g + s) B := h.red.1
/-- Each lead is that of a coefficient. -/
theorem leads (h : Bas g s B) : ∃ l, Red B.length (fn B) l ∧ ∀ i, i < B.length → l i < g := by
  obtain ⟨hok, l, hr⟩ := h.red
  refine ⟨l, hr, fun i hi => ?_⟩
  rcases Nat.lt_or_ge (l i) g with e | e
  · exact e
  · have := h.inj (fn B i) (InSpan.row laws (fn B) hi) fun j hj => hr.low i j hi (by omega)
    have h1 := hr.one i hi
    rw [this] at h1
    exact (laws.nought h1.symm).elim
theorem lead_at (h : Bas g s B) {l : Nat → Nat} (hr : Red B.length (fn B) l) {i : Nat} (hi : i < B.length) : vLead (g + s) (B.getD i []) = (l i : Int) := (red_lead h.ok hr hi).1
theorem length_le (h : Bas g s B) : B.length ≤ g := by
  obtain ⟨l, hr, hl⟩ := h.leads
  rcases Nat.eq_zero_or_pos B.length with e | e
  · omega
  · have := hr.lead_top hl e; omega
end Bas
theorem byte_zero {x : Nat} (hx : x < 256) (h : byte x = 0) : x = 0 := by
  have := congrArg By.v h
  rwa [byte_v hx] at this
theorem vec_zero_iff {xs : List Nat} (ha : AllB xs) (j : Nat) : vec xs j = 0 ↔ xs.getD j 0 = 0 :=
  ⟨fun h => byte_zero (ha.getD j) h, fun h => by show byte (xs.getD j 0) = 0; rw [h]; rfl⟩
theorem makes_one {row : List Nat} {b : Nat → By} (h : Makes [row] b) : ∃ c, b = fun j => c * vec row j := by
  obtain ⟨c, rfl⟩ := h
  refine ⟨c 0, funext fun j => ?_⟩
  show (0 : By) + c 0 * fn [row] 0 j = _
  rw [laws.add_comm, laws.add_zero]; rfl
/-- A row is put in: a basis again. -/
theorem insB_bas {g s : Nat} {B : List (List Nat)} {row : List Nat} (h : Bas g s B) (hl : row.length = g + s) (ha : AllB row) : Bas g s (insB g s B row) := by
  rw [insB]
  split
  · exact h
  · next hlead =>
    obtain ⟨hT, hS⟩ := insertN_red h.red hl ha
    obtain ⟨l, hr, hlt⟩ := h.leads
    obtain ⟨L, h1, h2⟩ := vLead_some hlead
    obtain ⟨hLg, hL0, hLz⟩ := (vLeadTo_some _ g L).1 h1
    refine ⟨hT, fun x hx hz => ?_⟩
    have hx2 : Makes (B ++ [row]) x := InSpan.trans laws hx hS.1
    obtain ⟨y, b, hy, hb, rfl⟩ := makes_append.1 hx2
    obtain ⟨c, rfl⟩ := makes_one hb
    have hv := left_vec h.ok hr hl ha
    have hn := fun i hi => left_nought h.ok hr hl ha (i := i) hi
    have hva := left_all (B := B) h.ok ha
    obtain ⟨v, hvv⟩ : ∃ v, leftB (g + s) B row = v := ⟨_, rfl⟩
    rw [hvv] at hv hn hva hL0 hLz
    have hrow : ∀ j, vec row j = vec v j + comb B.length (fn B) (fun i => vec row (l i)) j := fun j => by
      rw [hv]
      show _ = vec row j + _ + _
      rw [laws.add_assoc, laws.add_self, laws.add_zero]
    have hy2 : InSpan B.length (fn B) fun j => y j + c * comb B.length (fn B) (fun i => vec row (l i)) j := InSpan.add laws hy (InSpan.mul laws c ⟨_, rfl⟩)
    obtain ⟨y2, hy2e⟩ : ∃ y2, (fun j => y j + c * comb B.length (fn B) (fun i => vec row (l i)) j) = y2 := ⟨_, rfl⟩
    rw [hy2e] at hy2
    have e : ∀ j, y j + c * vec row j = y2 j + c * vec v j := fun j => by
      rw [hrow j, ← hy2e]
      show _ = y j + _ + _
      rw [laws.mul_add, laws.add_assoc]
      congr 1
      exact laws.add_comm _ _
    have hz2 : ∀ j, j < g → y2 j + c * vec v j = 0 := fun j hj => by rw [← e]; exact hz j hj
    have hy0 := hr.nought laws hy2 fun i hi => by
      have := hz2 (l i) (hlt i hi)
      rw [hn i hi, laws.mul_zero, laws.add_zero] at this; exact this
    have hc : c = 0 := by
      have h3 := hz2 L hLg
      rw [hy0, laws.zero_add, laws.mul_comm] at h3
      exact Laws.mul_eq_zero laws h3 fun e0 => hL0 ((vec_zero_iff hva L).1 e0)
    funext j
    show y j + c * vec row j = 0
    rw [e j, hy0, hc, laws.zero_mul, laws.add_zero]
/-- Is a row of these coefficients of the rows' span? -/
def inB (g s : Nat) (B : List (List Nat)) (row : List Nat) : Prop := vLead g (leftB (g + s) B row) < 0
instance (g s : Nat) (B : List (List Nat)) (row : List Nat) : Decidable (inB g s B row) := by unfold inB; infer_instance
theorem insB_in {g s : Nat} {B : List (List Nat)} {row : List Nat} (h : inB g s B row) : insB g s B row = B := if_pos h
theorem insB_new {g s : Nat} {B : List (List Nat)} {row : List Nat} (h : ¬ inB g s B row) : insB g s B row = insertN (g + s) B row := if_neg h
end Go.Proofs.YtgelalbmhllccaaGreat
/- bytes.Equal. -/
namespace Go.Proofs.YtgelalbmhllccaaGreat
open Go.RowKit
end Go.Proofs.YtgelalbmhllccaaGreat
/- The document's answers of layer 6 in plain terms. -/
namespace Go.Proofs.YtgelalbmhllccaaGreat
open Lin
/-- The document's reduced matrix. -/
def reduceN (M : List (List Nat)) : List (List Nat) := if fits M then reduceTo (sizeC M) M M.length else []
/-- The document's product. -/
def mulR (M N : List (List Nat)) : Prop := fits M ∧ fits N ∧ sizeC M = sizeR N
instance (M N : List (List Nat)) : Decidable (mulR M N) := by unfold mulR; infer_instance
end Go.Proofs.YtgelalbmhllccaaGreat
/- Rows in memory as matrices: words that no function of the document's own is needed for. -/
namespace Go.Proofs.YtgelalbmhllccaaGreat
open Go.RowKit Lin
set_option linter.unusedSimpArgs false
set_option linter.unusedVariables false
theorem infoRow : (Tryz.prog.info? 43).map (fun i => (i.zero, i.size, i.bytes)) = some (some (.slice none 0 0), 1, 24) := by kernel_rfl
theorem rowsXs_len (rs : List RowV) : (rowsXs rs).length = rs.length := by simp [rowsXs]
/-- What a call hands back that lays rows in new memory, and an error. -/
def NewRows (w : World) (M : List (List Nat)) (er : Int) (e : Ending) (w' : World) : Prop :=
  ∃ A n c, e = .returned (.tuple #[.slice A n c, .int .i64 er]) ∧ ∃ rs, RowsIn w' (fun b => w.heap.size ≤ b ∧ b < w'.heap.size) A n rs ∧ n ≤ c ∧ rowsXs rs = M ∧ Keep w w'
theorem NewRows.none_ (w : World) (er : Int) : NewRows w [] er (.returned (.tuple #[.slice none 0 0, .int .i64 er])) w := ⟨none, 0, 0, rfl, [], RowsIn.nothing _ _ _, Nat.le_refl _, rfl, Keep.refl w⟩
theorem ownrows_le {w : World} {base n c : Nat} {e : TypeId} {A : Option Addr} {rs : List RowV} (h : OwnRows w base e A n c rs) : n ≤ c := by
  rcases h.2 with ⟨hv, h0⟩ | ⟨g, cap, cur, hv, _, _, hle, _⟩
  · omega
  · injection hv with _ _ h3; omega
/-- Rows in new memory, being laid. -/
def Laying (W w : World) (A : Option Addr) (n c : Nat) (rs : List RowV) : Prop :=
  OwnRows w W.heap.size 43 A n c rs ∧ (∀ r ∈ rs, LiesIn w (fun b => W.heap.size ≤ b ∧ b < w.heap.size ∧ ¬ (Value.slice A n c).ownBlock = some b) r) ∧ Keep W w
namespace Laying
variable {W w w' : World} {A : Option Addr} {n c : Nat} {rs : List RowV}
theorem nothing (W : World) : Laying W W none 0 0 [] := ⟨OwnRows.none_ _ _ _, fun r hr => by simp at hr, Keep.refl W⟩
theorem later (h : Laying W w A n c rs) (k : Keep w w') : Laying W w' A n c rs :=
  ⟨h.1.keep k, fun r hr => ((h.2.1 r hr).turned (Turned.of_keep (F := fun _ => False) k) fun _ _ e => e).mono fun b hb => ⟨hb.1, Nat.lt_of_lt_of_le hb.2.1 k.size, hb.2.2⟩, h.2.2.trans k⟩
/-- A row more: its own block apart from the rows' block. -/
theorem more {A2 : Option Addr} {c2 : Nat} {r : RowV} {o : Obj} (h : Laying W w A n c rs) (hr : LiesIn w (fun b => W.heap.size ≤ b ∧ b < w.heap.size ∧ ¬ (Value.slice A n c).ownBlock = some b) r) (o2 : OwnRows w' W.heap.size 43 A2 (n + 1) c2 (rs ++ [r])) (k : (w.alloc o).grownBy w' (Value.slice A n c).ownBlock)
    (hb : (Value.slice A2 (n + 1) c2).ownBlock = (Value.slice A n c).ownBlock ∨ (Value.slice A2 (n + 1) c2).ownBlock = some (w.alloc o).heap.size) : Laying W w' A2 (n + 1) c2 (rs ++ [r]) := by
  have ka : Keep w (w.alloc o) := Below.alloc (Keep.refl w) (Nat.le_refl _) o
  have kT : Turned (fun b => (Value.slice A n c).ownBlock = some b) w w' := (Turned.of_keep ka).trans (Turned.of_grown (F := fun b => (Value.slice A n c).ownBlock = some b) k fun i e => e) fun i e => Or.inl e
  have kk : Keep W w' := kT.keep h.2.2 fun b e => h.1.rowLe b e
  refine ⟨o2, fun r' hr' => ?_, kk⟩
  have hall : ∀ r' ∈ rs ++ [r], LiesIn w (fun b => W.heap.size ≤ b ∧ b < w.heap.size ∧ ¬ (Value.slice A n c).ownBlock = some b) r' := fun r' hr' => by
    rw [List.mem_append, List.mem_singleton] at hr'
    rcases hr' with hr' | rfl
    · exact h.2.1 r' hr'
    · exact hr
  refine ((hall r' hr').turned kT fun b hb e => hb.2.2 e).mono fun b hb' => ⟨hb'.1, Nat.lt_of_lt_of_le hb'.2.1 kT.size, fun e => ?_⟩
  rcases hb with h1 | h1
  · rw [h1] at e; exact hb'.2.2 e
  · rw [h1] at e
    injection e with e
    have := ka.size
    simp at e; omega
theorem done (h : Laying W w A n c rs) (er : Int) : NewRows W (rowsXs rs) er (.returned (.tuple #[.slice A n c, .int .i64 er])) w :=
  ⟨A, n, c, rfl, rs, RowsIn.of_own h.1 (fun r hr => (h.2.1 r hr).mono fun b hb => ⟨hb.1, hb.2.1⟩) (fun b hb => h.1.lt b hb), ownrows_le h.1, rfl, h.2.2⟩
end Laying
theorem RowsIn.ok {w : World} {F : Nat → Prop} {A : Option Addr} {n nc : Nat} {rs : List RowV} (h : RowsIn w F A n rs) (hn : ∀ r ∈ rs, r.n = nc) : RowsOk nc (rowsXs rs) := fun x hx => by
  obtain ⟨r, hr, rfl⟩ := List.mem_map.1 hx
  exact ⟨by rw [(h.2.1 r hr).1, hn r hr], (h.2.1 r hr).2.1⟩
theorem LiesIn.str {w : World} {F : Nat → Prop} {r : RowV} (h : LiesIn w F r) (hF : ∀ b, F b → b < w.heap.size) (k : Nat) : (convert 43 9 (.slice r.A r.n r.c)).run Tryz.prog (w.drewN k) = .ok (.string (strN r.xs)) (w.drewN k) :=
  run_str (w := w.drewN k) (h.bytes hF) Tryz.underlying43 Tryz.underlying5 Tryz.underlying9 r.c
theorem rowsXs_take {rs : List RowV} {k : Nat} {r : RowV} (h : rs[k]? = some r) : rowsXs (rs.take (k + 1)) = rowsXs (rs.take k) ++ [r.xs] := by
  rw [List.take_add_one, h]; simp [rowsXs]
theorem rowsXs_ne {rs rs' : List RowV} {k : Nat} {r r' : RowV} (h : rs[k]? = some r) (h' : rs'[k]? = some r') (hne : r.xs ≠ r'.xs) : rowsXs rs ≠ rowsXs rs' := fun e => by
  have := congrArg (fun l => l[k]?) e
  simp [rowsXs, h, h'] at this
  exact hne this
end Go.Proofs.YtgelalbmhllccaaGreat
/- Contracts of the landed sum, the product with x, the product. -/
namespace Go.Proofs.YtgelalbmhllccaaGreat
open Go.RowKit
set_option linter.unusedVariables false
set_option linter.unusedSimpArgs false

theorem ret_int {k : IntKind} {a b : Int} (h : a = b) : Ending.returned (.int k a) = .returned (.int k b) := by rw [h]

theorem add_any (a b : Nat) (ha : a < 256) (hb : b < 256) (w : World) :
    Calls Tryz.prog 142 #[.int .u8 a, .int .u8 b] w fun e w' => e = .returned (.int .u8 ((a ^^^ b : Nat) : Int)) ∧ w = w' := by
  go_enter Tryz.func142, Tryz.ntmps142
  go_wp2
  go_ret
  exact ⟨ret_int (u8_xor_nat a b ha hb), rfl⟩
theorem timesX_any (a : Nat) (ha : a < 256) (w : World) :
    Calls Tryz.prog 148 #[.int .u8 a] w fun e w' => e = .returned (.int .u8 (xt a : Nat)) ∧ w = w' := by
  go_enter Tryz.func148, Tryz.ntmps148
  go_wp2
  go_ret
  exact ⟨ret_int (u8_xor_nat (a * 2 % 256) (27 * (a / 128)) (by omega) (by omega)), rfl⟩

set_option maxHeartbeats 400000 in
theorem mul_any (a b : Nat) (ha : a < 256) (hb : b < 256) (w : World) :
    Calls Tryz.prog 152 #[.int .u8 a, .int .u8 b] w fun e w' => e = .returned (.int .u8 (mulN a b : Nat)) ∧ w = w' := by
  go_enter Tryz.func152, Tryz.ntmps152
  go_wp2
  go_loop [0, 5, 7] (fun x p i => ∃ k : Nat, k ≤ 8 ∧ i = .int .i64 k ∧ x = .int .u8 (xtn k a : Nat) ∧ p = .int .u8 (mulTo a b k : Nat)) (fun _ _ i => 8 - (intOf i).toNat)
  case atStart => exact ⟨0, by omega, rfl, rfl, rfl⟩
  case round =>
    obtain ⟨k, hk, rfl, rfl, rfl⟩ := hrel
    by_cases hlt : k < 8
    · go_wp2_with fail
      rw [stepbit_int _ b k (xtn_lt k ha) hb]
      refine (add_any _ _ (mulTo_lt a b k ha) (stepbit_lt _ b k (xtn_lt k ha)) _).mono ?_
      rintro e w' ⟨rfl, rfl⟩
      go_wp2_with fail
      refine (timesX_any _ (xtn_lt k ha) _).mono ?_
      rintro e w' ⟨rfl, rfl⟩
      go_wp2_with fail
      go_round
      case rel => exact ⟨k + 1, by omega, by go_num, rfl, rfl⟩
      case measure => simp [intOf]; omega
    · obtain rfl : k = 8 := by omega
      go_wp2
      go_ret
      exact ⟨rfl, rfl⟩

theorem add_eq (a b v : Nat) (ha : a < 256) (hb : b < 256) (h : a ^^^ b = v) (w : World) :
    Calls Tryz.prog 142 #[.int .u8 a, .int .u8 b] w fun e w' => e = .returned (.int .u8 (v : Int)) ∧ w = w' := by
  subst h; exact add_any a b ha hb w
theorem mul_eq (a b v : Nat) (ha : a < 256) (hb : b < 256) (h : mulN a b = v) (w : World) :
    Calls Tryz.prog 152 #[.int .u8 a, .int .u8 b] w fun e w' => e = .returned (.int .u8 (v : Int)) ∧ w = w' := by
  subst h; exact mul_any a b ha hb w
end Go.Proofs.YtgelalbmhllccaaGreat
/- Contracts of the landed vector code: each, the closures. -/
namespace Go.Proofs.YtgelalbmhllccaaGreat
open Go.RowKit
set_option linter.unusedVariables false
set_option linter.unusedSimpArgs false

/-- A function of the program is entered. -/
theorem enters_at {P : Program} {f : FuncId} {fn : Func} {c : Code} (hf : P.funcs[f]? = some fn) (hname : (fn.name == "runtime.NumGoroutine") = false) (hb : fn.body = some c) : ∀ args w, (callFunc f args).run P w = .ok (.enter f args) w := by
  intro args w
  have h1 : fn.name ≠ "runtime.NumGoroutine" := by simpa using hname
  simp [callFunc, hf, h1, hb, mark]
set_option maxRecDepth 100000 in
theorem each_any (R : Nat → World → Prop) (g : Nat) (cap : Array Value) (B n ca : Nat) (A : Option Addr) (xs : List Nat) (w : World) (hn : n ≤ 140737488351232) (eg : ∀ args w, (callFunc g args).run Tryz.prog w = .ok (.enter g args) w)
    (hb : ∀ i wr, i < n → R i wr → Bytes wr B A n xs) (h0 : R 0 w)
    (hstep : ∀ i wr, i < n → R i wr → Calls Tryz.prog g (#[.int .i64 i, .int .u8 (xs.getD i 0 : Nat)] ++ cap) wr fun e w' => e = .returned (.tuple #[]) ∧ R (i + 1) w') :
    Calls Tryz.prog 128 #[.slice A n ca, .func (.func g) #[] cap] w fun e w' => e = .returned (.tuple #[]) ∧ R n w' := by
  go_enter Tryz.func128, Tryz.ntmps128
  go_wp2_with fail
  go_loopw [8] (fun i wr => ∃ k : Nat, k ≤ n ∧ i = .int .i64 k ∧ R k wr) (fun i _ => n - (intOf i).toNat)
  case atStart => exact ⟨0, by omega, rfl, h0⟩
  case round =>
    obtain ⟨k, hk, rfl, hr⟩ := hrel
    by_cases hlt : k < n
    · obtain ⟨b1, o1, rfl, hb1, hc1⟩ := (hb k wr hlt hr).at_ hlt
      have hs := hstep k wr hlt hr
      generalize xs.getD k 0 = x at *
      have HS := Lib.hid hs
      clear hs hstep hb h0
      go_wp2_with fail
      refine HS.out.mono ?_
      rintro e w2 ⟨rfl, hr2⟩
      go_wp2_with fail
      go_round
      case rel => exact ⟨k + 1, by omega, by go_num, hr2⟩
      case measure => simp [intOf]; omega
    · obtain rfl : k = n := by omega
      go_wp2_with fail
      go_end0
      exact ⟨rfl, hr⟩

def Timing (w : World) (b c : Nat) : Prop :=
  b + 1 < w.heap.size ∧ ∀ i, i < 16 → w.cell? ⟨b, i, none⟩ = some (.int .u8 ((mulN c i : Nat) : Int)) ∧ w.cell? ⟨b + 1, i, none⟩ = some (.int .u8 ((mulN c (16 * i) : Nat) : Int))
theorem split16 : ∀ x, x < 256 → (x % 16) ^^^ (16 * (x / 16)) = x := by decide +kernel
set_option maxRecDepth 100000 in
theorem product_any (b c x : Nat) (w : World) (h : Timing w b c) (hc : c < 256) (hx : x < 256) :
    Calls Tryz.prog 153 #[.int .u8 x, .pointer (some ⟨b, 0, none⟩), .pointer (some ⟨b + 1, 0, none⟩)] w fun e w' => e = .returned (.int .u8 (mulN c x : Nat)) ∧ ∃ m, w' = w.drewN m := by
  have hs := split16 x hx
  have hm : mulN c (x % 16) ^^^ mulN c (16 * (x / 16)) = mulN c x := by rw [← mul_xor_right c _ _ hc (by omega) (by omega), hs]
  clear hs
  have k1 := mulN_lt (a := c) (x % 16) hc
  have k2 := mulN_lt (a := c) (16 * (x / 16)) hc
  have h1 := (h.2 (x % 16) (by omega)).1
  have h2 := (h.2 (x / 16) (by omega)).2
  have e15 : bits .and .u8 (x : Int) 15 = ((x % 16 : Nat) : Int) := by
    rw [show (15 : Int) = ((15 : Nat) : Int) from rfl, u8_and_nat _ 15 hx (by decide)]
    exact congrArg _ (Nat.and_two_pow_sub_one_eq_mod x 4)
  have hlo : x % 16 < 16 := Nat.mod_lt _ (by decide)
  have hhi : x / 16 < 16 := by omega
  generalize x % 16 = lo at *
  have e4 : (x : Int) / 16 = ((x / 16 : Nat) : Int) := by omega
  generalize x / 16 = hi at *
  have l1 : (0 : Int) ≤ (lo : Int) := Int.natCast_nonneg _
  have l2 : (lo : Int) < 16 := by omega
  have l3 : (0 : Int) ≤ (hi : Int) := Int.natCast_nonneg _
  have l4 : (hi : Int) < 16 := by omega
  go_enter Tryz.func153, Tryz.ntmps153
  go_wp2_with fail
  generalize mulN c lo = p at *
  generalize mulN c (16 * hi) = q at *
  go_quiet ((go_at_call 142; exact quiet_of_eq (add_eq p q _ k1 k2 hm _)))
  go_wp2_with fail
  go_ret
  exact ⟨rfl, _, rfl⟩
/-- A variable that a closure has taken. -/
def Held (w : World) (b : Nat) (v : Value) (t : TypeId) : Prop := w.heap[b]? = some (.cells #[v] t (0, 0))
theorem Held.cell {w : World} {b : Nat} {v : Value} {t : TypeId} (h : Held w b v t) : w.cell? ⟨b, 0, none⟩ = some v := cell_of_one h
/-- What a closure meets: its store goes to a block that it doesn't read. -/
structure Meets (w : World) (g i n : Nat) (z : Nat) : Prop where
  cell : w.cell? ⟨g, i, none⟩ = some (.int .u8 (z : Int))
  free : w.frozen? ⟨g, i, none⟩ = false
  lt : i < n
theorem Timing.drew {w : World} {b c : Nat} (h : Timing w b c) : Timing w.drew b c := h
theorem Timing.drewN {w : World} {b c : Nat} (h : Timing w b c) (m : Nat) : Timing (w.drewN m) b c := h
set_option maxRecDepth 100000 in
theorem scalestep (i x c z bp p bs g n : Nat) (w : World) (hp : Held w bp (.func (.func 153) #[] #[.pointer (some ⟨p, 0, none⟩), .pointer (some ⟨p + 1, 0, none⟩)]) 195) (ht : Timing w p c) (hs : Held w bs (.slice (some ⟨g, 0, none⟩) n n) 43) (hz : Meets w g i n z) (hx : x < 256) (hc : c < 256) (_n1 : g ≠ bp) (_n2 : g ≠ bs) :
    Calls Tryz.prog 129 #[.int .i64 i, .int .u8 x, .pointer (some ⟨bp, 0, none⟩), .pointer (some ⟨bs, 0, none⟩)] w fun e w' => e = .returned (.tuple #[]) ∧ ∃ m, w' = (w.setCell ⟨g, i, none⟩ (.int .u8 ((mulN x c : Nat) : Int))).drewN m := by
  have c1 := hp.cell
  have c2 := hs.cell
  obtain ⟨c3, c4, hi⟩ := hz
  have e1 : (0 : Int) ≤ (i : Int) := Int.natCast_nonneg _
  have e2 : (i : Int) < (n : Int) := by omega
  rw [mul_comm' x c hx hc]
  obtain ⟨v, hv⟩ : ∃ v, mulN c x = v := ⟨_, rfl⟩
  rw [hv]
  have HV := Lib.hid hv
  clear hv
  have HT := Lib.hid ht
  clear hp hs ht
  go_enter Tryz.func129, Tryz.ntmps129
  go_region_held3 (fun w' => w'.cell? ⟨bp, 0, none⟩ = some (.func (.func 153) #[] #[.pointer (some ⟨p, 0, none⟩), .pointer (some ⟨p + 1, 0, none⟩)]) ∧ w'.cell? ⟨bs, 0, none⟩ = some (.slice (some ⟨g, 0, none⟩) n n) ∧ w'.frozen? ⟨g, i, none⟩ = false)
    (first | go_keep | (refine ⟨?_, ?_, ?_⟩ <;> first | ((first | rw [World.cell?_drew] | rw [World.cell?_drewN] | skip); rw [World.cell?_setCell_far _ _ _ _ (by assumption)]; assumption) | simp [*]))
    ((go_at_call 153; refine (product_any p c x _ HT.out.drew hc hx).mono ?_; rw [HV.out]; rintro e w' ⟨rfl, m, rfl⟩))
  all_goals go_end0
  all_goals exact ⟨rfl, _, rfl⟩
set_option maxRecDepth 100000 in
theorem addsstep (i x y c z bp p bb bs g n cb b2 o2 : Nat) (w : World) (hp : Held w bp (.func (.func 153) #[] #[.pointer (some ⟨p, 0, none⟩), .pointer (some ⟨p + 1, 0, none⟩)]) 195) (ht : Timing w p c) (hb : Held w bb (.slice (some ⟨b2, o2, none⟩) n cb) 43) (hs : Held w bs (.slice (some ⟨g, 0, none⟩) n n) 43) (hy : w.cell? ⟨b2, o2 + i, none⟩ = some (.int .u8 (y : Int))) (hz : Meets w g i n z) (hx : x < 256) (hy' : y < 256) (hc : c < 256) (_n0 : g ≠ bp) (_n1 : g ≠ bb) (_n2 : g ≠ bs) (_n3 : g ≠ b2) :
    Calls Tryz.prog 157 #[.int .i64 i, .int .u8 x, .pointer (some ⟨bp, 0, none⟩), .pointer (some ⟨bb, 0, none⟩), .pointer (some ⟨bs, 0, none⟩)] w fun e w' => e = .returned (.tuple #[]) ∧ ∃ m, w' = (w.setCell ⟨g, i, none⟩ (.int .u8 ((x ^^^ mulN y c : Nat) : Int))).drewN m := by
  have c1 := hp.cell
  have c2 := hs.cell
  have c0 := hb.cell
  obtain ⟨c3, c4, hi⟩ := hz
  have e1 : (0 : Int) ≤ (i : Int) := Int.natCast_nonneg _
  have e2 : (i : Int) < (n : Int) := by omega
  rw [mul_comm' y c hy' hc]
  have hq := mulN_lt (a := c) y hc
  obtain ⟨q, hq'⟩ : ∃ q, mulN c y = q := ⟨_, rfl⟩
  rw [hq'] at hq ⊢
  have HQ := Lib.hid hq'
  clear hq'
  obtain ⟨v, hv⟩ : ∃ v, x ^^^ q = v := ⟨_, rfl⟩
  rw [hv]
  have HV := Lib.hid hv
  clear hv
  have HT := Lib.hid ht
  clear hp hs hb ht
  go_enter Tryz.func157, Tryz.ntmps157
  go_region_held3 (fun w' => w'.cell? ⟨bp, 0, none⟩ = some (.func (.func 153) #[] #[.pointer (some ⟨p, 0, none⟩), .pointer (some ⟨p + 1, 0, none⟩)]) ∧ w'.cell? ⟨bb, 0, none⟩ = some (.slice (some ⟨b2, o2, none⟩) n cb) ∧ w'.cell? ⟨bs, 0, none⟩ = some (.slice (some ⟨g, 0, none⟩) n n) ∧ w'.cell? ⟨b2, o2 + i, none⟩ = some (.int .u8 (y : Int)) ∧ w'.frozen? ⟨g, i, none⟩ = false)
    (first | go_keep | (refine ⟨?_, ?_, ?_, ?_, ?_⟩ <;> first | ((first | rw [World.cell?_drew] | rw [World.cell?_drewN] | skip); rw [World.cell?_setCell_far _ _ _ _ (by assumption)]; assumption) | simp [*]))
    (first | (go_at_call 153; refine (product_any p c y _ HT.out.drew hc hy').mono ?_; rw [HQ.out]; rintro e w' ⟨rfl, m, rfl⟩) | (go_at_call 142; refine (add_eq x q v hx hq HV.out _).mono ?_; rintro e w' ⟨rfl, rfl⟩))
  all_goals go_end0
  all_goals exact ⟨rfl, _, rfl⟩
set_option linter.unusedSimpArgs false in
set_option maxRecDepth 100000 in
theorem combstep (i x c z bp p bs g n : Nat) (w : World) (hp : Held w bp (.func (.func 153) #[] #[.pointer (some ⟨p, 0, none⟩), .pointer (some ⟨p + 1, 0, none⟩)]) 195) (ht : Timing w p c) (hs : Held w bs (.slice (some ⟨g, 0, none⟩) n n) 43) (hz : Meets w g i n z) (hx : x < 256) (hz' : z < 256) (hc : c < 256) (_n1 : g ≠ bp) (_n2 : g ≠ bs) :
    Calls Tryz.prog 141 #[.int .i64 i, .int .u8 x, .pointer (some ⟨bs, 0, none⟩), .pointer (some ⟨bp, 0, none⟩)] w fun e w' => e = .returned (.tuple #[]) ∧ ∃ m, w' = (w.setCell ⟨g, i, none⟩ (.int .u8 ((z ^^^ mulN x c : Nat) : Int))).drewN m := by
  have c1 := hp.cell
  have c2 := hs.cell
  obtain ⟨c3, c4, hi⟩ := hz
  have e1 : (0 : Int) ≤ (i : Int) := Int.natCast_nonneg _
  have e2 : (i : Int) < (n : Int) := by omega
  rw [mul_comm' x c hx hc]
  have hq := mulN_lt (a := c) x hc
  obtain ⟨q, hq'⟩ : ∃ q, mulN c x = q := ⟨_, rfl⟩
  rw [hq'] at hq ⊢
  have HQ := Lib.hid hq'
  clear hq'
  obtain ⟨v, hv⟩ : ∃ v, z ^^^ q = v := ⟨_, rfl⟩
  rw [hv]
  have HV := Lib.hid hv
  clear hv
  have HT := Lib.hid ht
  clear hp hs ht
  go_enter Tryz.func141, Tryz.ntmps141
  refine wp_region_noPanic ?_
  refine wp_region_held_drew (S := fun w' => w'.cell? ⟨bp, 0, none⟩ = some (.func (.func 153) #[] #[.pointer (some ⟨p, 0, none⟩), .pointer (some ⟨p + 1, 0, none⟩)]) ∧ w'.cell? ⟨bs, 0, none⟩ = some (.slice (some ⟨g, 0, none⟩) n n) ∧ w'.frozen? ⟨g, i, none⟩ = false) (by kernel_rfl) (⟨c1, c2, c4⟩) (fun hHeld => ?_)
  refine wpAnyH_take (i := 0) (v := ?_) rfl (by kernel_rfl) (by kernel_rfl) (by kernel_rfl) (fun _ _ _ h => h) (Or.inl ⟨by rfl, ?_⟩) hHeld ?_
  rotate_left
  · intro wq hSw
    try dsimp only at hSw
    go_simp
    all_goals with_reducible rfl
  try simp only [Act.put, List.getElem_toArray, List.getElem_cons_succ, List.getElem_cons_zero, List.setIfInBounds_toArray, List.set_cons_zero, List.set_cons_succ]
  refine wpAnyH_take (i := 1) (v := ?_) rfl (by kernel_rfl) (by kernel_rfl) (by kernel_rfl) (fun _ _ _ h => h) (Or.inl ⟨by rfl, ?_⟩) hHeld ?_
  rotate_left
  · intro wq hSw
    try dsimp only at hSw
    go_simp
    all_goals with_reducible rfl
  try simp only [Act.put, List.getElem_toArray, List.getElem_cons_succ, List.getElem_cons_zero, List.setIfInBounds_toArray, List.set_cons_zero, List.set_cons_succ]
  refine wpAnyH_take (i := 2) (v := ?_) rfl (by kernel_rfl) (by kernel_rfl) (by kernel_rfl) (fun _ _ _ h => h) (Or.inl ⟨by rfl, ?_⟩) hHeld ?_
  rotate_left
  · intro wq hSw
    try dsimp only at hSw
    go_simp
    all_goals with_reducible rfl
  try simp only [Act.put, List.getElem_toArray, List.getElem_cons_succ, List.getElem_cons_zero, List.setIfInBounds_toArray, List.set_cons_zero, List.set_cons_succ]
  refine wpAnyH_take (i := 3) (v := ?_) rfl (by kernel_rfl) (by kernel_rfl) (by kernel_rfl) (fun _ _ _ h => h) (Or.inl ⟨by rfl, ?_⟩) hHeld ?_
  rotate_left
  · intro wq hSw
    try dsimp only at hSw
    go_simp
    all_goals with_reducible rfl
  try simp only [Act.put, List.getElem_toArray, List.getElem_cons_succ, List.getElem_cons_zero, List.setIfInBounds_toArray, List.set_cons_zero, List.set_cons_succ]
  refine wpAnyH_take (i := 4) (v := ?_) rfl (by kernel_rfl) (by kernel_rfl) (by kernel_rfl) (fun _ _ _ h => h) (Or.inl ⟨by rfl, ?_⟩) hHeld ?_
  rotate_left
  · intro wq hSw
    try dsimp only at hSw
    go_simp
    all_goals with_reducible rfl
  try simp only [Act.put, List.getElem_toArray, List.getElem_cons_succ, List.getElem_cons_zero, List.setIfInBounds_toArray, List.set_cons_zero, List.set_cons_succ]
  refine wpAnyH_take (i := 6) (v := ?_) rfl (by kernel_rfl) (by kernel_rfl) (by kernel_rfl) (fun _ _ _ h => h) (Or.inl ⟨by rfl, ?_⟩) hHeld ?_
  rotate_left
  · intro wq hSw
    try dsimp only at hSw
    go_simp
    all_goals with_reducible rfl
  try simp only [Act.put, List.getElem_toArray, List.getElem_cons_succ, List.getElem_cons_zero, List.setIfInBounds_toArray, List.set_cons_zero, List.set_cons_succ]
  refine wpAnyH_take (i := 7) (v := ?_) rfl (by kernel_rfl) (by kernel_rfl) (by kernel_rfl) (fun _ _ _ h => h) (Or.inl ⟨by rfl, ?_⟩) hHeld ?_
  rotate_left
  · intro wq hSw
    try dsimp only at hSw
    go_simp
    all_goals with_reducible rfl
  try simp only [Act.put, List.getElem_toArray, List.getElem_cons_succ, List.getElem_cons_zero, List.setIfInBounds_toArray, List.set_cons_zero, List.set_cons_succ]
  refine wpAnyH_ready (rs := [5, 8]) (by kernel_rfl) (by simp) ?_
  refine AllReadyH.cons rfl (fun K hK => ?_) (AllReadyH.cons rfl (fun K hK => ?_) AllReadyH.nil)
  · go_simp
    refine hK.out _ _ (⟨c1, c2, c4⟩) (fun hHeld => ?_)
    clear hK K
    try simp only [Act.put, List.getElem_toArray, List.getElem_cons_succ, List.getElem_cons_zero, List.setIfInBounds_toArray, List.set_cons_zero, List.set_cons_succ]
    refine wpAnyH_ready (rs := [8]) (by kernel_rfl) (by simp) ?_
    refine AllReadyH.cons rfl (fun K hK => ?_) AllReadyH.nil
    go_simp
    refine (product_any p c x _ HT.out.drew hc hx).mono ?_
    rw [HQ.out]
    rintro e w' ⟨rfl, m, rfl⟩
    refine hK.out _ _ (⟨c1, c2, c4⟩) (fun hHeld => ?_)
    clear hK K
    try simp only [Act.put, List.getElem_toArray, List.getElem_cons_succ, List.getElem_cons_zero, List.setIfInBounds_toArray, List.set_cons_zero, List.set_cons_succ]
    refine wpAnyH_ready (rs := [9]) (by kernel_rfl) (by simp) ?_
    refine AllReadyH.cons rfl (fun K hK => ?_) AllReadyH.nil
    go_simp
    refine (add_eq z q v hz' hq HV.out _).mono ?_
    rintro e w' ⟨rfl, rfl⟩
    refine hK.out _ _ (⟨c1, c2, c4⟩) (fun hHeld => ?_)
    clear hK K
    try simp only [Act.put, List.getElem_toArray, List.getElem_cons_succ, List.getElem_cons_zero, List.setIfInBounds_toArray, List.set_cons_zero, List.set_cons_succ]
    refine wpAnyH_take (i := 10) (v := ?_) rfl (by kernel_rfl) (by kernel_rfl) (by kernel_rfl) (fun _ _ _ h => h) (Or.inl ⟨by rfl, ?_⟩) hHeld ?_
    rotate_left
    · intro wq hSw
      try dsimp only at hSw
      go_simp
      all_goals with_reducible rfl
    try simp only [Act.put, List.getElem_toArray, List.getElem_cons_succ, List.getElem_cons_zero, List.setIfInBounds_toArray, List.set_cons_zero, List.set_cons_succ]
    refine wpAnyH_ready (rs := [11]) (by kernel_rfl) (by simp) ?_
    refine AllReadyH.cons rfl (fun K hK => ?_) AllReadyH.nil
    go_simp
    refine hK.out _ _ (⟨(World.cell?_setCell_far _ _ _ _ (by assumption)).trans c1, (World.cell?_setCell_far _ _ _ _ (by assumption)).trans c2, (World.frozen?_setCell _ _ _ _).trans c4⟩) (fun hHeld => ?_)
    clear hK K
    try simp only [Act.put, List.getElem_toArray, List.getElem_cons_succ, List.getElem_cons_zero, List.setIfInBounds_toArray, List.set_cons_zero, List.set_cons_succ]
    refine wpAnyH_done (by kernel_rfl) ?_ _
    refine NoPanic.normal ?_
    go_end0
    exact ⟨rfl, _, rfl⟩
  · go_simp
    refine (product_any p c x _ HT.out.drew hc hx).mono ?_
    rw [HQ.out]
    rintro e w' ⟨rfl, m, rfl⟩
    refine hK.out _ _ (⟨c1, c2, c4⟩) (fun hHeld => ?_)
    clear hK K
    try simp only [Act.put, List.getElem_toArray, List.getElem_cons_succ, List.getElem_cons_zero, List.setIfInBounds_toArray, List.set_cons_zero, List.set_cons_succ]
    refine wpAnyH_ready (rs := [5]) (by kernel_rfl) (by simp) ?_
    refine AllReadyH.cons rfl (fun K hK => ?_) AllReadyH.nil
    go_simp
    refine hK.out _ _ (⟨c1, c2, c4⟩) (fun hHeld => ?_)
    clear hK K
    try simp only [Act.put, List.getElem_toArray, List.getElem_cons_succ, List.getElem_cons_zero, List.setIfInBounds_toArray, List.set_cons_zero, List.set_cons_succ]
    refine wpAnyH_ready (rs := [9]) (by kernel_rfl) (by simp) ?_
    refine AllReadyH.cons rfl (fun K hK => ?_) AllReadyH.nil
    go_simp
    refine (add_eq z q v hz' hq HV.out _).mono ?_
    rintro e w' ⟨rfl, rfl⟩
    refine hK.out _ _ (⟨c1, c2, c4⟩) (fun hHeld => ?_)
    clear hK K
    try simp only [Act.put, List.getElem_toArray, List.getElem_cons_succ, List.getElem_cons_zero, List.setIfInBounds_toArray, List.set_cons_zero, List.set_cons_succ]
    refine wpAnyH_take (i := 10) (v := ?_) rfl (by kernel_rfl) (by kernel_rfl) (by kernel_rfl) (fun _ _ _ h => h) (Or.inl ⟨by rfl, ?_⟩) hHeld ?_
    rotate_left
    · intro wq hSw
      try dsimp only at hSw
      go_simp
      all_goals with_reducible rfl
    try simp only [Act.put, List.getElem_toArray, List.getElem_cons_succ, List.getElem_cons_zero, List.setIfInBounds_toArray, List.set_cons_zero, List.set_cons_succ]
    refine wpAnyH_ready (rs := [11]) (by kernel_rfl) (by simp) ?_
    refine AllReadyH.cons rfl (fun K hK => ?_) AllReadyH.nil
    go_simp
    refine hK.out _ _ (⟨(World.cell?_setCell_far _ _ _ _ (by assumption)).trans c1, (World.cell?_setCell_far _ _ _ _ (by assumption)).trans c2, (World.frozen?_setCell _ _ _ _).trans c4⟩) (fun hHeld => ?_)
    clear hK K
    try simp only [Act.put, List.getElem_toArray, List.getElem_cons_succ, List.getElem_cons_zero, List.setIfInBounds_toArray, List.set_cons_zero, List.set_cons_succ]
    refine wpAnyH_done (by kernel_rfl) ?_ _
    refine NoPanic.normal ?_
    go_end0
    exact ⟨rfl, _, rfl⟩
end Go.Proofs.YtgelalbmhllccaaGreat
