/- A row put into a reduced matrix: it is reduced, and spans what both span. -/
import Derived.Test.YtcjjhblgejkkeaaGreatMatPlain
import Derived.Test.YtcjjhblgejkkeaaGreatLin
namespace Go.Proofs.YtcjjhblgejkkeaaGreat
open Lin
/-- The lead that a reduced matrix's row has. -/
theorem red_lead {nc : Nat} {M : List (List Nat)} {l : Nat → Nat} (hM : RowsOk nc M) (hr : Red M.length (fn M) l) {k : Nat} (hk : k < M.length) : vLead nc (M.getD k []) = (l k : Int) ∧ l k < nc := by
  have hw := hM.at_ hk
  have hl : l k < nc := hr.lead_lt laws hM.wide hk
  have h1 : (M.getD k []).getD (l k) 0 = 1 := by
    have := congrArg By.v (hr.one k hk)
    rw [show (fn M k (l k)).v = (M.getD k []).getD (l k) 0 from vec_v hw.2 _] at this
    exact this
  have h0 : ∀ j, j < l k → (M.getD k []).getD j 0 = 0 := fun j hj => by
    have := congrArg By.v (hr.low k j hk hj)
    rw [show (fn M k j).v = (M.getD k []).getD j 0 from vec_v hw.2 _] at this
    exact this
  have e : vLeadTo (M.getD k []) nc = some (l k) := (vLeadTo_some _ nc _).2 ⟨hl, by rw [h1]; decide, h0⟩
  exact ⟨by rw [vLead, e], hl⟩
theorem vec_vAddS {n c : Nat} {xs ys : List Nat} (hx : xs.length = n) (hy : ys.length = n) (hxa : AllB xs) (hya : AllB ys) (hc : c < 256) : vec (vAddS n xs ys c) = fun j => vec xs j + byte c * vec ys j := by
  funext j
  apply By.ext
  rw [vec_v (vAddS_all hxa hya), vAddS, tab_getD, add_v, mul_v, vec_v hxa, vec_v hya, byte_v hc, mul_comm' c _ hc (hya.getD j)]
  by_cases h : j < n
  · rw [if_pos h]
  · rw [if_neg h, List.getD_eq_getElem?_getD, List.getElem?_eq_none (by omega), List.getD_eq_getElem?_getD, List.getElem?_eq_none (by omega)]
    show 0 = 0 ^^^ mulN 0 c
    rw [mul_zero_left]; rfl
theorem vec_vScale {n c : Nat} {xs : List Nat} (hx : xs.length = n) (hxa : AllB xs) (hc : c < 256) : vec (vScale n xs c) = fun j => byte c * vec xs j := by
  funext j
  apply By.ext
  rw [vec_v (vScale_all hxa), vScale, tab_getD, mul_v, vec_v hxa, byte_v hc, mul_comm' c _ hc (hxa.getD j)]
  by_cases h : j < n
  · rw [if_pos h]
  · rw [if_neg h, List.getD_eq_getElem?_getD, List.getElem?_eq_none (by omega)]
    show 0 = mulN 0 c
    rw [mul_zero_left]
theorem clearTo_all {nc : Nat} {M : List (List Nat)} {row : List Nat} (hM : RowsOk nc M) (hr : AllB row) : ∀ k, k ≤ M.length → AllB (clearTo nc M row k)
  | 0, _ => hr
  | k + 1, h => vAddS_all (clearTo_all hM hr k (by omega)) (hM.at_ (show k < M.length by omega)).2
/-- What is cleared row by row, as rows over the field. -/
theorem vec_clearTo {nc : Nat} {M : List (List Nat)} {row : List Nat} {l : Nat → Nat} (hM : RowsOk nc M) (hr : Red M.length (fn M) l) (hrow : row.length = nc) (hra : AllB row) : ∀ k, k ≤ M.length → vec (clearTo nc M row k) = clearSeq (fn M) l (vec row) k
  | 0, _ => rfl
  | k + 1, h => by
    have ih := vec_clearTo hM hr hrow hra k (by omega)
    have hk : k < M.length := by omega
    have ha := clearTo_all hM hra k (by omega)
    have hw := hM.at_ hk
    show vec (vAddS nc _ _ _) = _
    rw [vec_vAddS (clearTo_len nc M row hrow k) hw.1 ha hw.2 (ha.getD _), (red_lead hM hr hk).1, Int.toNat_natCast]
    funext j
    show vec (clearTo nc M row k) j + byte ((clearTo nc M row k).getD (l k) 0) * fn M k j = clearSeq (fn M) l (vec row) k j + clearSeq (fn M) l (vec row) k (l k) * fn M k j
    rw [← ih]
    rfl
/-- The other rows, cleared at the new lead. -/
def clearedL (nc : Nat) (M : List (List Nat)) (u : List Nat) (L : Nat) : List (List Nat) := M.map fun m => vAddS nc m u (m.getD L 0)
theorem take_map_succ (nc : Nat) (M : List (List Nat)) (u : List Nat) (L k : Nat) (hk : k < M.length) : (clearedL nc M u L).take (k + 1) = (clearedL nc M u L).take k ++ [vAddS nc (M.getD k []) u ((M.getD k []).getD L 0)] := by
  rw [List.take_add_one, clearedL, List.getElem?_map, List.getElem?_eq_getElem hk, List.getD_eq_getElem?_getD, List.getElem?_eq_getElem hk]; rfl
theorem layTo_eq {nc : Nat} {M : List (List Nat)} {u : List Nat} {L q : Nat} (hq : q ≤ M.length) (hlo : ∀ i, i < q → ¬ (L : Int) < vLead nc (M.getD i [])) (hhi : q < M.length → (L : Int) < vLead nc (M.getD q [])) :
    ∀ k, k ≤ M.length → layTo nc M u L k = if k ≤ q then ((clearedL nc M u L).take k, false) else ((clearedL nc M u L).take q ++ [u] ++ ((clearedL nc M u L).take k).drop q, true)
  | 0, _ => by rw [if_pos (Nat.zero_le _)]; rfl
  | k + 1, h => by
    have ih := layTo_eq (u := u) hq hlo hhi k (by omega)
    have hk : k < M.length := by omega
    have hl : (clearedL nc M u L).length = M.length := by simp [clearedL]
    rw [layTo, ih, take_map_succ nc M u L k hk]
    by_cases h1 : k < q
    · rw [if_pos (show k ≤ q by omega), if_pos (show k + 1 ≤ q by omega)]
      have e : decide ((L : Int) < vLead nc (M.getD k [])) = false := decide_eq_false (hlo k h1)
      simp only [e, Bool.and_false, Bool.or_false, if_neg (show ¬ (false = true) by decide)]
    · by_cases h2 : k = q
      · subst h2
        rw [if_pos (Nat.le_refl _), if_neg (show ¬ k + 1 ≤ k by omega)]
        have e : decide ((L : Int) < vLead nc (M.getD k [])) = true := decide_eq_true (hhi hk)
        have hd : ((clearedL nc M u L).take k ++ [vAddS nc (M.getD k []) u ((M.getD k []).getD L 0)]).drop k = [vAddS nc (M.getD k []) u ((M.getD k []).getD L 0)] := by
          rw [List.drop_append_of_le_length (by rw [List.length_take]; omega), List.drop_of_length_le (by rw [List.length_take]; omega)]; rfl
        simp only [e, Bool.not_false, Bool.and_self, if_pos, Bool.false_or, hd]
      · rw [if_neg (show ¬ k ≤ q by omega), if_neg (show ¬ k + 1 ≤ q by omega)]
        simp only [Bool.not_true, Bool.false_and, if_neg (show ¬ (false = true) by decide), Bool.true_or]
        rw [List.drop_append_of_le_length (by rw [List.length_take]; omega), List.append_assoc _ (((clearedL nc M u L).take k).drop q)]
theorem red_congr {r : Nat} {R S : Nat → Nat → By} {l m : Nat → Nat} (h : Red r R l) (he : ∀ i, i < r → R i = S i) (hl : ∀ i, i < r → l i = m i) : Red r S m :=
  ⟨fun i j hij hj => by rw [← hl i (by omega), ← hl j hj]; exact h.inc i j hij hj, fun i hi => by rw [← he i hi, ← hl i hi]; exact h.one i hi, fun i k hi hk hne => by rw [← he k hk, ← hl i hi]; exact h.zero i k hi hk hne, fun i j hi hj => by rw [← he i hi]; rw [← hl i hi] at hj; exact h.low i j hi hj⟩
theorem place {l : Nat → Nat} {L : Nat} : ∀ r, (∀ i j, i < j → j < r → l i < l j) → (∀ i, i < r → l i ≠ L) → ∃ q, q ≤ r ∧ (∀ i, i < q → l i < L) ∧ ∀ i, q ≤ i → i < r → L < l i
  | 0, _, _ => ⟨0, Nat.le_refl _, fun i hi => by omega, fun i _ hi => by omega⟩
  | r + 1, hinc, hne => by
    obtain ⟨q, h1, h2, h3⟩ := place r (fun i j hij hj => hinc i j hij (by omega)) fun i hi => hne i (by omega)
    by_cases e : q = r
    · subst e
      rcases Nat.lt_or_ge (l q) L with h | h
      · exact ⟨q + 1, Nat.le_refl _, fun i hi => by
          by_cases e : i = q
          · subst e; exact h
          · exact h2 i (by omega), fun i a b => by omega⟩
      · exact ⟨q, by omega, h2, fun i a b => by
          obtain rfl : i = q := by omega
          have := hne i (by omega); omega⟩
    · exact ⟨q, by omega, h2, fun i a b => by
        by_cases e2 : i = r
        · subst e2
          have := h3 q (Nat.le_refl _) (by omega)
          have := hinc q i (by omega) (by omega)
          omega
        · exact h3 i a (by omega)⟩
theorem fn_append_row (M : List (List Nat)) (row : List Nat) : ∀ i, i < M.length + 1 → fn (M ++ [row]) i = insM M.length (fn M) (vec row) i := fun i hi => by
  by_cases e : i < M.length
  · rw [insM_lt e, fn, fn, List.getD_eq_getElem?_getD, List.getD_eq_getElem?_getD, List.getElem?_append_left e]
  · obtain rfl : i = M.length := by omega
    rw [insM_at, fn, List.getD_eq_getElem?_getD, List.getElem?_append_right (Nat.le_refl _), Nat.sub_self]; rfl
theorem fn_insert (C : List (List Nat)) (u : List Nat) (q : Nat) (hq : q ≤ C.length) : ∀ i, i < C.length + 1 → fn (C.take q ++ [u] ++ C.drop q) i = insM q (fn C) (vec u) i := fun i hi => by
  have hl : (C.take q).length = q := by rw [List.length_take]; omega
  have hl2 : (C.take q ++ [u]).length = q + 1 := by rw [List.length_append, hl]; rfl
  rw [fn, List.getD_eq_getElem?_getD]
  rcases Nat.lt_trichotomy i q with e | e | e
  · rw [insM_lt e, fn, List.getD_eq_getElem?_getD, List.getElem?_append_left (by omega), List.getElem?_append_left (by omega), List.getElem?_take, if_pos e]
  · subst e
    rw [insM_at, List.getElem?_append_left (by omega), List.getElem?_append_right (by omega), hl, Nat.sub_self]; rfl
  · rw [insM_gt e, fn, List.getD_eq_getElem?_getD, List.getElem?_append_right (by omega), hl2, List.getElem?_drop]
    congr 3; omega
theorem insertN_red {nc : Nat} {M : List (List Nat)} {row : List Nat} (hM : RedL nc M) (hrow : row.length = nc) (hra : AllB row) : RedL nc (insertN nc M row) ∧ SameSpan (insertN nc M row) (M ++ [row]) := by
  obtain ⟨hok, l, hr⟩ := hM
  have hv := vec_clearTo hok hr hrow hra M.length (Nat.le_refl _)
  have hva := clearTo_all hok hra M.length (Nat.le_refl _)
  have hvl := clearTo_len nc M row hrow M.length
  have hsame : ∀ {N : List (List Nat)} {S : Nat → Nat → By}, N.length = M.length + 1 → (∀ i, i < M.length + 1 → fn N i = S i) → Within (M.length + 1) S (M.length + 1) (insM M.length (fn M) (vec row)) ∧ Within (M.length + 1) (insM M.length (fn M) (vec row)) (M.length + 1) S → SameSpan N (M ++ [row]) := fun {N S} hN he hw => by
    have hA : (M ++ [row]).length = M.length + 1 := by simp
    have e1 := within_congr laws (r := M.length + 1) he
    have e1' := within_congr laws (r := M.length + 1) fun i hi => (he i hi).symm
    have e2 := within_congr laws (r := M.length + 1) (fn_append_row M row)
    have e2' := within_congr laws (r := M.length + 1) fun i hi => (fn_append_row M row i hi).symm
    rw [SameSpan, hN, hA]
    exact ⟨(e1.trans laws hw.1).trans laws e2', (e2.trans laws hw.2).trans laws e1'⟩
  by_cases hlead : vLead nc (clearTo nc M row M.length) < 0
  · have hI : insertN nc M row = M := by rw [insertN]; exact if_pos hlead
    rw [hI]
    refine ⟨⟨hok, l, hr⟩, ?_⟩
    have hz : ∀ i, i < nc → (clearTo nc M row M.length).getD i 0 = 0 := by
      refine (vLeadTo_none _ nc).1 ?_
      unfold vLead at hlead
      split at hlead
      · omega
      · assumption
    have h0 : clearSeq (fn M) l (vec row) M.length = fun _ => 0 := by
      rw [← hv]
      funext j
      apply By.ext
      rw [vec_v hva]
      rcases Nat.lt_or_ge j nc with h | h
      · exact hz j h
      · rw [List.getD_eq_getElem?_getD, List.getElem?_eq_none (by omega)]; rfl
    have hin := (clearSeq_span laws hr (vec row)).2 h0
    have hm := within_more laws hin
    have hA : (M ++ [row]).length = M.length + 1 := by simp
    have e2 := within_congr laws (r := M.length + 1) (fn_append_row M row)
    have e2' := within_congr laws (r := M.length + 1) fun i hi => (fn_append_row M row i hi).symm
    rw [SameSpan, hA]
    exact ⟨hm.2.trans laws e2', e2.trans laws hm.1⟩
  · obtain ⟨L, hL⟩ : ∃ L, vLeadTo (clearTo nc M row M.length) nc = some L := by
      unfold vLead at hlead
      split at hlead
      · exact ⟨_, by assumption⟩
      · omega
    obtain ⟨hLn, hL0, hLz⟩ := (vLeadTo_some _ nc L).1 hL
    have hvL : vLead nc (clearTo nc M row M.length) = (L : Int) := by rw [vLead, hL]
    obtain ⟨v, hvv⟩ : ∃ v, clearTo nc M row M.length = v := ⟨_, rfl⟩
    obtain ⟨u, hu⟩ : ∃ u, vScale nc v (invN (v.getD L 0)) = u := ⟨_, rfl⟩
    rw [hvv] at hv hva hvl hL0 hLz hvL
    have ha := invN_lt (v.getD L 0)
    have hwu : vec u = fun j => byte (invN (v.getD L 0)) * vec v j := by rw [← hu]; exact vec_vScale hvl hva ha
    have hvn : ∀ i, i < M.length → vec v (l i) = 0 := fun i hi => by rw [hv]; exact clearSeq_nought laws hr (vec row) hi
    have hne : ∀ i, i < M.length → l i ≠ L := fun i hi e => hL0 (by
      have := congrArg By.v (hvn i hi)
      rw [vec_v hva, e] at this; exact this)
    obtain ⟨q, hq, hqlo, hqhi⟩ := place M.length hr.inc hne
    have hpos : 1 ≤ v.getD L 0 := by omega
    have hw1 : vec u L = 1 := by
      rw [hwu]; apply By.ext
      show mulN (byte (invN (v.getD L 0))).v (vec v L).v = 1
      rw [byte_v ha, vec_v hva, mul_comm' _ _ ha (hva.getD L), mul_inv _ (hva.getD L) hpos]
    have hwlow : ∀ j, j < L → vec u j = 0 := fun j hj => by
      rw [hwu]
      have : vec v j = 0 := By.ext (by rw [vec_v hva]; exact hLz j hj)
      show byte _ * vec v j = 0
      rw [this, laws.mul_zero]
    have hwz : ∀ i, i < M.length → vec u (l i) = 0 := fun i hi => by
      rw [hwu]
      show byte _ * vec v (l i) = 0
      rw [hvn i hi, laws.mul_zero]
    have hane : byte (invN (v.getD L 0)) ≠ 0 := fun e => by
      have h1 := congrArg By.v hw1
      rw [hwu] at h1
      have h2 : (byte (invN (v.getD L 0)) * vec v L) = 0 := by rw [e, laws.zero_mul]
      rw [show (fun j => byte (invN (v.getD L 0)) * vec v j) L = 0 from h2] at h1
      cases h1
    have hred := insert_red laws hr hq hqlo hqhi hwz hw1 hwlow
    have hspan := insert_span laws (R := fn M) (L := L) (w := vec u) (v := vec row) (c := fun i => vec row (l i)) hq hane (fun j => by
      rw [hwu]
      show byte _ * vec v j = byte _ * (vec row j + comb M.length (fn M) (fun i => vec row (l i)) j)
      rw [hv, clearSeq_eq laws hr (vec row) (Nat.le_refl _)])
    have hua : AllB u := by rw [← hu]; exact vScale_all hva
    have hul : u.length = nc := by rw [← hu]; exact tab_length _ _
    have hC : (clearedL nc M u L).length = M.length := by simp [clearedL]
    have hlay := layTo_eq (nc := nc) (M := M) (u := u) (L := L) hq (fun i hi e => by
        rw [(red_lead hok hr (show i < M.length by omega)).1] at e
        have := hqlo i hi; omega) (fun h => by
        rw [(red_lead hok hr h).1]
        have := hqhi q (Nat.le_refl _) h; omega) M.length (Nat.le_refl _)
    have hI : insertN nc M row = (clearedL nc M u L).take q ++ [u] ++ (clearedL nc M u L).drop q := by
      have e0 : insertN nc M row = if (layTo nc M u L M.length).2 = true then (layTo nc M u L M.length).1 else (layTo nc M u L M.length).1 ++ [u] := by
        rw [insertN, hvv]
        show (if vLead nc v < 0 then _ else _) = _
        rw [hvL, if_neg (by omega)]
        show (if (layTo nc M (vScale nc v (invN (v.getD ((L : Int)).toNat 0))) ((L : Int)).toNat M.length).2 = true then _ else _) = _
        rw [Int.toNat_natCast, hu]
      have hall : (clearedL nc M u L).take M.length = clearedL nc M u L := List.take_of_length_le (by omega)
      rw [e0, hlay]
      by_cases hqr : M.length ≤ q
      · obtain rfl : q = M.length := by omega
        rw [if_pos (Nat.le_refl _), if_neg (fun e => Bool.noConfusion e), List.drop_of_length_le (by omega), List.append_nil]
      · rw [if_neg hqr, if_pos rfl, hall]
    have hCfn : ∀ i, i < M.length → fn (clearedL nc M u L) i = clearM (fn M) L (vec u) i := fun i hi => by
      have hw := hok.at_ hi
      rw [fn, clearedL, List.getD_eq_getElem?_getD, List.getElem?_map, List.getElem?_eq_getElem hi]
      have e : M.getD i [] = M[i] := by rw [List.getD_eq_getElem?_getD, List.getElem?_eq_getElem hi]; rfl
      show vec (vAddS nc M[i] u (M[i].getD L 0)) = _
      rw [← e, vec_vAddS hw.1 hul hw.2 hua (hw.2.getD L)]
      rfl
    have hfn : ∀ i, i < M.length + 1 → fn (insertN nc M row) i = insM q (clearM (fn M) L (vec u)) (vec u) i := fun i hi => by
      rw [hI, fn_insert _ _ _ (by omega) i (by omega)]
      rcases Nat.lt_trichotomy i q with e | e | e
      · rw [insM_lt e, insM_lt e, hCfn i (by omega)]
      · subst e; rw [insM_at, insM_at]
      · rw [insM_gt e, insM_gt e, hCfn (i - 1) (by omega)]
    have hlen : (insertN nc M row).length = M.length + 1 := by
      rw [hI]; simp [hC]; omega
    refine ⟨⟨fun x hx => ?_, insM q l L, ?_⟩, hsame hlen hfn hspan⟩
    · rw [hI] at hx
      have hCm : ∀ y ∈ clearedL nc M u L, y.length = nc ∧ AllB y := fun y hy => by
        obtain ⟨m, hm, rfl⟩ := List.mem_map.1 hy
        exact ⟨tab_length _ _, vAddS_all (hok m hm).2 hua⟩
      simp only [List.mem_append, List.mem_singleton] at hx
      rcases hx with (hx | rfl) | hx
      · exact hCm x (List.mem_of_mem_take hx)
      · exact ⟨hul, hua⟩
      · exact hCm x (List.mem_of_mem_drop hx)
    · rw [hlen]; exact red_congr hred (fun i hi => (hfn i hi).symm) fun i hi => rfl
/-- Rows, put in one by one. -/
def reduceTo (nc : Nat) (M : List (List Nat)) (k : Nat) : List (List Nat) := (M.take k).foldl (insertN nc) []
theorem reduceTo_succ {nc : Nat} {M : List (List Nat)} {k : Nat} (hk : k < M.length) : reduceTo nc M (k + 1) = insertN nc (reduceTo nc M k) (M.getD k []) := by
  rw [reduceTo, List.take_add_one, List.getElem?_eq_getElem hk, Option.toList_some, List.foldl_append, List.getD_eq_getElem?_getD, List.getElem?_eq_getElem hk]; rfl
theorem within_left {A B : List (List Nat)} : Within A.length (fn A) (A ++ B).length (fn (A ++ B)) := fun i hi => by
  have e : fn (A ++ B) i = fn A i := by rw [fn, fn, List.getD_eq_getElem?_getD, List.getD_eq_getElem?_getD, List.getElem?_append_left hi]
  rw [← e]
  exact InSpan.row laws (fn (A ++ B)) (by rw [List.length_append]; omega)
theorem within_right {A B : List (List Nat)} : Within B.length (fn B) (A ++ B).length (fn (A ++ B)) := fun i hi => by
  have e : fn (A ++ B) (A.length + i) = fn B i := by rw [fn, fn, List.getD_eq_getElem?_getD, List.getD_eq_getElem?_getD, List.getElem?_append_right (by omega), Nat.add_sub_cancel_left]
  rw [← e]
  exact InSpan.row laws (fn (A ++ B)) (by rw [List.length_append]; omega)
theorem within_append {A B C : List (List Nat)} (h1 : Within A.length (fn A) C.length (fn C)) (h2 : Within B.length (fn B) C.length (fn C)) : Within (A ++ B).length (fn (A ++ B)) C.length (fn C) := fun i hi => by
  rcases Nat.lt_or_ge i A.length with h | h
  · have e : fn (A ++ B) i = fn A i := by rw [fn, fn, List.getD_eq_getElem?_getD, List.getD_eq_getElem?_getD, List.getElem?_append_left h]
    rw [e]; exact h1 i h
  · have e : fn (A ++ B) i = fn B (i - A.length) := by rw [fn, fn, List.getD_eq_getElem?_getD, List.getD_eq_getElem?_getD, List.getElem?_append_right h]
    rw [e]; rw [List.length_append] at hi; exact h2 _ (by omega)
theorem same_append {A B C D : List (List Nat)} (h1 : SameSpan A C) (h2 : SameSpan B D) : SameSpan (A ++ B) (C ++ D) :=
  ⟨within_append (h1.1.trans laws within_left) (h2.1.trans laws within_right), within_append (h1.2.trans laws within_left) (h2.2.trans laws within_right)⟩
theorem redL_nil (nc : Nat) : RedL nc [] := ⟨fun r hr => by simp at hr, fun _ => 0, ⟨fun i j _ hj => by simp at hj, fun i hi => by simp at hi, fun i k hi => by simp at hi, fun i j hi => by simp at hi⟩⟩
theorem reduceTo_red {nc : Nat} {M : List (List Nat)} (hM : RowsOk nc M) : ∀ k, k ≤ M.length → RedL nc (reduceTo nc M k) ∧ SameSpan (reduceTo nc M k) (M.take k)
  | 0, _ => ⟨redL_nil nc, by rw [List.take_zero]; exact SameSpan.refl []⟩
  | k + 1, h => by
    have hk : k < M.length := by omega
    obtain ⟨h1, h2⟩ := reduceTo_red hM k (by omega)
    have hw := hM.at_ hk
    have h3 := insertN_red h1 hw.1 hw.2
    rw [reduceTo_succ hk]
    refine ⟨h3.1, h3.2.trans ?_⟩
    have e : M.take (k + 1) = M.take k ++ [M.getD k []] := by rw [List.take_add_one, List.getElem?_eq_getElem hk, List.getD_eq_getElem?_getD, List.getElem?_eq_getElem hk]; rfl
    rw [e]
    exact same_append h2 (SameSpan.refl _)
/-- The rows of a reduced matrix have leads. -/
theorem redL_leads {nc : Nat} {M : List (List Nat)} (h : RedL nc M) : ∀ r ∈ M, r.length = nc ∧ 0 ≤ vLead nc r := fun r hr => by
  obtain ⟨hok, l, hl⟩ := h
  obtain ⟨i, hi, e⟩ := List.getElem_of_mem hr
  have := (red_lead hok hl hi).1
  rw [List.getD_eq_getElem?_getD, List.getElem?_eq_getElem hi, Option.getD_some, e] at this
  exact ⟨(hok r hr).1, by rw [this]; omega⟩
theorem redL_length {nc : Nat} {M : List (List Nat)} (h : RedL nc M) : M.length ≤ nc := by
  obtain ⟨hok, l, hl⟩ := h
  rcases Nat.eq_zero_or_pos M.length with e | e
  · omega
  · have h1 := hl.lead_top (n := nc) (fun i hi => (red_lead hok hl hi).2) e
    omega
end Go.Proofs.YtcjjhblgejkkeaaGreat
/- The document's answers of layer 6 in plain terms. -/
namespace Go.Proofs.YtcjjhblgejkkeaaGreat
open Lin
/-- The document's reduced matrix. -/
def reduceN (M : List (List Nat)) : List (List Nat) := if fits M then reduceTo (sizeC M) M M.length else []
/-- The document's product. -/
def mulR (M N : List (List Nat)) : Prop := fits M ∧ fits N ∧ sizeC M = sizeR N
instance (M N : List (List Nat)) : Decidable (mulR M N) := by unfold mulR; infer_instance
def mulE (M N : List (List Nat)) : Int := if mulR M N then 0 else 21
def mulV (M N : List (List Nat)) : List (List Nat) := if mulR M N then prodN M N (sizeC M) (sizeC N) M.length else []
/-- The rows, each with a unit behind it. -/
def wideN (M : List (List Nat)) (n : Nat) : List (List Nat) := (List.range n).map fun i => M.getD i [] ++ vUnit n i
theorem wideN_len (M : List (List Nat)) (n : Nat) : (wideN M n).length = n := by simp [wideN]
theorem wideN_at (M : List (List Nat)) (n i : Nat) (h : i < n) : (wideN M n).getD i [] = M.getD i [] ++ vUnit n i := by
  rw [wideN, List.getD_eq_getElem?_getD, List.getElem?_map, List.getElem?_range h]; rfl
theorem vUnit_all (n k : Nat) : AllB (vUnit n k) := fun x hx => by
  obtain ⟨i, _, rfl⟩ := List.mem_map.1 hx
  show (if i = k then 1 else 0) < 256
  split <;> decide
theorem wideN_ok {M : List (List Nat)} {n : Nat} (hM : RowsOk n M) (hl : M.length = n) : RowsOk (n + n) (wideN M n) := fun x hx => by
  obtain ⟨i, hi, rfl⟩ := List.mem_map.1 hx
  have hw := hM.at_ (show i < M.length by rw [hl]; exact List.mem_range.1 hi)
  exact ⟨by rw [List.length_append, hw.1, vUnit, tab_length], hw.2.append (vUnit_all n i)⟩
theorem wide_free {M : List (List Nat)} {n : Nat} (hM : RowsOk n M) (hl : M.length = n) : Free n (fn (wideN M n)) := fun c hc i hi => by
  have h := hc (n + i)
  have e : comb n (fn (wideN M n)) c (n + i) = c i := by
    have hone : ∀ k, k < n → fn (wideN M n) k (n + i) = if i = k then 1 else 0 := fun k hk => by
      have hw := hM.at_ (show k < M.length by omega)
      rw [fn, wideN_at M n k hk]
      apply By.ext
      rw [vec_v (hw.2.append (vUnit_all n k)), List.getD_eq_getElem?_getD, List.getElem?_append_right (by omega), hw.1, Nat.add_sub_cancel_left, ← List.getD_eq_getElem?_getD, vUnit, tab_getD, if_pos hi]
      split <;> rfl
    show sm n (fun k => c k * fn (wideN M n) k (n + i)) = c i
    rw [sm_one laws hi (fun k hk hne => by rw [hone k hk, if_neg (fun e => hne e.symm), laws.mul_zero]), hone i hi, if_pos rfl, laws.mul_one]
  rw [e] at h; exact h
theorem wide_full {M : List (List Nat)} {n : Nat} (hM : RowsOk n M) (hl : M.length = n) : (reduceTo (n + n) (wideN M n) n).length = n := by
  have hred := reduceTo_red (wideN_ok hM hl) n (by rw [wideN_len]; exact Nat.le_refl _)
  rw [List.take_of_length_le (by rw [wideN_len]; exact Nat.le_refl _)] at hred
  have hr := rank_of hred.1 hred.2
  rw [wideN_len] at hr
  exact free_rank laws (wide_free hM hl) hr
/-- The document's inverse. -/
def invE (M : List (List Nat)) : Int := if ¬ fits M ∨ M.length ≠ sizeC M then 21 else if (reduceN M).length < M.length then 24 else 0
def invV (M : List (List Nat)) : List (List Nat) := if invE M = 0 then (reduceTo (M.length + M.length) (wideN M M.length) M.length).map (List.drop M.length) else []
theorem idN_get (n k i : Nat) (h : i < k) : (idN n k)[i]? = some (vUnit n i) := by
  rw [idN, List.getElem?_map, List.getElem?_range h]; rfl
def trV (M : List (List Nat)) : List (List Nat) := if fits M then trN M M.length (sizeC M) else []
def idE (n : Int) : Int := if n < 0 ∨ 255 < n then 1 else 0
def idV (n : Int) : List (List Nat) := if n < 0 ∨ 255 < n then [] else idN n.toNat n.toNat
end Go.Proofs.YtcjjhblgejkkeaaGreat
/- What layer 6's answers are to one another: products, transposes, ranks, inverses (plain). -/
namespace Go.Proofs.YtcjjhblgejkkeaaGreat.Lin
variable {B : Type} [Add B] [Mul B] [Zero B] [One B]
theorem comb_congr {B : Type} [Add B] [Mul B] [Zero B] {n : Nat} {M N : Nat → Nat → B} (c : Nat → B) (h : ∀ i, i < n → M i = N i) : comb n M c = comb n N c := funext fun _ => sm_congr fun i hi => by rw [h i hi]
theorem comb_coef {B : Type} [Add B] [Mul B] [Zero B] {n : Nat} {M : Nat → Nat → B} {c d : Nat → B} (h : ∀ i, i < n → c i = d i) : comb n M c = comb n M d := funext fun _ => sm_congr fun i hi => by rw [h i hi]
theorem hasRank_congr (K : Laws B) {r p : Nat} {M N : Nat → Nat → B} (h : ∀ i, i < r → M i = N i) (k : HasRank r M p) : HasRank r N p := by
  obtain ⟨R, l, h1, h2, h3⟩ := k
  exact ⟨R, l, h1, h2.trans K (within_congr K h), (within_congr K fun i hi => (h i hi).symm).trans K h3⟩
/-- Full rank: the rows are free. -/
theorem free_of_rank [DecidableEq B] (K : Laws B) {n : Nat} {M : Nat → Nat → B} (h : HasRank n M n) : Free n M := fun c hc i0 hi0 => by
  apply Classical.byContradiction
  intro hne
  obtain ⟨a, ha⟩ := K.inv _ hne
  obtain ⟨m, rfl⟩ : ∃ m, n = m + 1 := ⟨n - 1, by omega⟩
  have hrow : InSpan m (fun k => M (skip i0 k)) (M i0) := ⟨fun k => a * c (skip i0 k), funext fun j => by
    have h0 := hc j
    rw [comb, sm_skip K m i0 (by omega)] at h0
    have h1 := K.eq_of_add h0
    show M i0 j = sm m fun k => a * c (skip i0 k) * M (skip i0 k) j
    have e : sm m (fun k => a * c (skip i0 k) * M (skip i0 k) j) = a * sm m fun k => c (skip i0 k) * M (skip i0 k) j := by
      rw [← sm_mul K]; exact sm_congr fun k _ => K.mul_assoc _ _ _
    rw [e, ← h1, ← K.mul_assoc, ha, K.one_mul]⟩
  have hw : Within (m + 1) M m fun k => M (skip i0 k) := fun i hi => by
    by_cases e : i = i0
    · rw [e]; exact hrow
    · obtain ⟨k, hk, hkm⟩ : ∃ k, skip i0 k = i ∧ k < m := by
        rcases Nat.lt_or_ge i i0 with h1 | h1
        · exact ⟨i, if_pos h1, by omega⟩
        · exact ⟨i - 1, by rw [skip, if_neg (by omega)]; omega, by omega⟩
      rw [← hk]
      exact InSpan.row K (fun k => M (skip i0 k)) hkm
  have := rank_le K hw h
  omega
theorem free_units (K : Laws B) (n : Nat) : Free n (unitM : Nat → Nat → B) := fun c hc i hi => by
  have h := hc i
  have e : comb n unitM c i = c i := by
    show sm n (fun k => c k * if i = k then 1 else 0) = c i
    rw [sm_one K hi fun k _ hne => by rw [if_neg (fun e => hne e.symm), K.mul_zero], if_pos rfl, K.mul_one]
  rw [← e]; exact h
end Go.Proofs.YtcjjhblgejkkeaaGreat.Lin
namespace Go.Proofs.YtcjjhblgejkkeaaGreat
open Lin
/-- A matrix of r rows and c columns. -/
def Sz (r c : Nat) (M : List (List Nat)) : Prop := M.length = r ∧ RowsOk c M
namespace Sz
variable {r c n m : Nat} {M N O : List (List Nat)}
theorem fits (h : Sz r c M) : Go.Proofs.YtcjjhblgejkkeaaGreat.fits M := fun x hx => by
  cases M with
  | nil => simp at hx
  | cons y M => rw [List.headD_cons, (h.2 x hx).1, (h.2 y (by simp)).1]
theorem sizeC (h : Sz r c M) (hr : 1 ≤ r) : sizeC M = c := by
  rw [Go.Proofs.YtcjjhblgejkkeaaGreat.sizeC, if_pos h.fits]
  cases M with
  | nil => have := h.1; simp at this; omega
  | cons y M => rw [List.headD_cons, (h.2 y (by simp)).1]
theorem sizeR (h : Sz r c M) : sizeR M = r := by rw [Go.Proofs.YtcjjhblgejkkeaaGreat.sizeR, if_pos h.fits, h.1]
theorem sizeE (h : Sz r c M) : sizeE M = 0 := by rw [Go.Proofs.YtcjjhblgejkkeaaGreat.sizeE, if_pos h.fits]
theorem at_ (h : Sz r c M) {i : Nat} (hi : i < r) : (M.getD i []).length = c ∧ AllB (M.getD i []) := h.2.at_ (by rw [h.1]; exact hi)
theorem wide (h : Sz r c M) : ∀ i, i < r → Wide c (fn M i) := fun i hi => h.2.wide i (by rw [h.1]; exact hi)
theorem ext (h : Sz r c M) (k : Sz r c N) (e : ∀ i, i < r → fn M i = fn N i) : M = N := by
  refine List.ext_getElem (h.1.trans k.1.symm) fun i h1 h2 => ?_
  have hi : i < r := by rw [← h.1]; exact h1
  have := vec_inj ((h.at_ hi).1.trans (k.at_ hi).1.symm) (h.at_ hi).2 (k.at_ hi).2 (e i hi)
  rwa [List.getD_eq_getElem?_getD, List.getElem?_eq_getElem h1, List.getD_eq_getElem?_getD, List.getElem?_eq_getElem h2] at this
end Sz
theorem sm_v (n : Nat) (f : Nat → By) : (sm n f).v = sumX (fun i => (f i).v) n := by
  induction n with
  | zero => rfl
  | succ n ih => rw [sumX, ← ih]; rfl
theorem dotN_lt {x : List Nat} {N : List (List Nat)} {n : Nat} (hx : AllB x) (j : Nat) : dotN x N j n < 256 := sumX_lt _ _ fun i _ => mulN_lt _ (hx.getD i)
theorem rowN_all {x : List Nat} {N : List (List Nat)} {n c : Nat} (hx : AllB x) : AllB (rowN x N n c) := fun y hy => by
  obtain ⟨j, _, rfl⟩ := List.mem_map.1 hy
  exact dotN_lt hx j
theorem vec_rowN {x : List Nat} {N : List (List Nat)} {n c : Nat} (hx : AllB x) (h : Sz n c N) : vec (rowN x N n c) = comb n (fn N) (vec x) := by
  funext j
  by_cases hj : j < c
  · apply By.ext
    rw [vec_v (rowN_all hx), rowN, tab_getD, if_pos hj, comb, sm_v]
    refine sumX_congr fun i hi => ?_
    rw [mul_v, vec_v hx]
    show _ = mulN (x.getD i 0) (vec (N.getD i []) j).v
    rw [vec_v (h.at_ hi).2]
  · rw [vec_wide (n := c) (by rw [rowN, tab_length]) j (by omega)]
    exact (sm_zero laws n fun i hi => by rw [h.wide i hi j (by omega), laws.mul_zero]).symm
section
variable {r n c m : Nat} {M N O : List (List Nat)}
theorem prod_sz (h : Sz r n M) (c : Nat) (N : List (List Nat)) : Sz r c (prodN M N n c r) := ⟨by rw [prodN, List.length_map, List.length_take, h.1, Nat.min_self], fun x hx => by
  obtain ⟨y, hy, rfl⟩ := List.mem_map.1 hx
  exact ⟨by rw [rowN, tab_length], rowN_all (h.2 y (List.mem_of_mem_take hy)).2⟩⟩
theorem fn_prod (h : Sz r n M) (k : Sz n c N) : ∀ i, i < r → fn (prodN M N n c r) i = mulM n (fn M) (fn N) i := fun i hi => by
  have hl : i < M.length := by rw [h.1]; exact hi
  have e : (prodN M N n c r).getD i [] = rowN (M.getD i []) N n c := by
    rw [prodN, List.take_of_length_le (by rw [h.1]; exact Nat.le_refl _), List.getD_eq_getElem?_getD, List.getElem?_map, List.getElem?_eq_getElem hl, List.getD_eq_getElem?_getD, List.getElem?_eq_getElem hl]; rfl
  rw [fn, e, vec_rowN (h.at_ hi).2 k]; rfl
theorem mulV_eq (h : Sz r n M) (k : Sz n c N) (hr : 1 ≤ r) (hn : 1 ≤ n) : mulV M N = prodN M N n c r ∧ mulE M N = 0 := by
  have hR : mulR M N := ⟨h.fits, k.fits, by rw [h.sizeC hr, k.sizeR]⟩
  exact ⟨by rw [mulV, if_pos hR, h.sizeC hr, k.sizeC hn, h.1], by rw [mulE, if_pos hR]⟩
theorem prod_assoc (h : Sz r n M) (k : Sz n m N) (l : Sz m c O) : prodN (prodN M N n m r) O m c r = prodN M (prodN N O m c n) n c r := by
  refine (prod_sz (prod_sz h m N) c O).ext (prod_sz h c _) fun i hi => ?_
  rw [fn_prod (prod_sz h m N) l i hi, fn_prod h (prod_sz k c O) i hi]
  show comb m (fn O) (fn (prodN M N n m r) i) = comb n (fn (prodN N O m c n)) (fn M i)
  rw [fn_prod h k i hi, comb_congr (fn M i) (fn_prod k l)]
  exact congrFun (Lin.mul_assoc' laws n m (fn M) (fn N) (fn O)) i
theorem id_sz (n : Nat) : Sz n n (idN n n) := ⟨by simp [idN], fun x hx => by
  obtain ⟨i, _, rfl⟩ := List.mem_map.1 hx
  exact ⟨by rw [vUnit, tab_length], vUnit_all n i⟩⟩
theorem vec_unit {n i : Nat} (hi : i < n) : vec (vUnit n i) = unitM i := funext fun j => by
  apply By.ext
  rw [vec_v (vUnit_all n i), vUnit, tab_getD]
  show _ = (if j = i then (1 : By) else 0).v
  by_cases e : j = i
  · subst e; rw [if_pos hi, if_pos rfl, if_pos rfl]; rfl
  · rw [if_neg e, if_neg e, ite_self]; rfl
theorem fn_id {n i : Nat} (hi : i < n) : fn (idN n n) i = unitM i := by
  rw [fn, List.getD_eq_getElem?_getD, idN_get n n i hi]
  exact vec_unit hi
theorem prod_id (h : Sz r n M) : prodN M (idN n n) n n r = M :=
  (prod_sz h n _).ext h fun i hi => by
    rw [fn_prod h (id_sz n) i hi]
    show comb n (fn (idN n n)) (fn M i) = fn M i
    rw [comb_congr (fn M i) fun k hk => fn_id hk]
    exact mul_unit laws (h.wide i hi)
theorem id_prod (k : Sz n c N) : prodN (idN n n) N n c n = N :=
  (prod_sz (id_sz n) c N).ext k fun i hi => by
    rw [fn_prod (id_sz n) k i hi]
    show comb n (fn N) (fn (idN n n) i) = fn N i
    rw [fn_id hi]
    exact unit_mul laws hi (fn N)
theorem colN_ok (h : Sz r c M) (k : Nat) : (colN M k r).length = r ∧ AllB (colN M k r) := ⟨by rw [colN, tab_length], fun x hx => by
  obtain ⟨i, hi, rfl⟩ := List.mem_map.1 hx
  exact (h.at_ (List.mem_range.1 hi)).2.getD k⟩
theorem tr_sz (h : Sz r c M) : Sz c r (trN M r c) := ⟨by simp [trN], fun x hx => by
  obtain ⟨k, _, rfl⟩ := List.mem_map.1 hx
  exact colN_ok h k⟩
theorem fn_tr (h : Sz r c M) : ∀ k, k < c → fn (trN M r c) k = trM r (fn M) k := fun k hk => funext fun i => by
  have e : (trN M r c).getD k [] = colN M k r := by rw [trN, List.getD_eq_getElem?_getD, List.getElem?_map, List.getElem?_range hk]; rfl
  show vec ((trN M r c).getD k []) i = if i < r then fn M i k else 0
  rw [e]
  apply By.ext
  rw [vec_v (colN_ok h k).2, colN, tab_getD]
  by_cases hi : i < r
  · rw [if_pos hi, if_pos hi]; exact (vec_v (h.at_ hi).2 k).symm
  · rw [if_neg hi, if_neg hi]; rfl
theorem tr_tr (h : Sz r c M) : trN (trN M r c) c r = M :=
  (tr_sz (tr_sz h)).ext h fun i hi => by
    rw [fn_tr (tr_sz h) i hi]
    funext j
    show (if j < c then fn (trN M r c) j i else 0) = fn M i j
    by_cases hj : j < c
    · rw [if_pos hj, fn_tr h j hj]
      show (if i < r then fn M i j else 0) = fn M i j
      rw [if_pos hi]
    · rw [if_neg hj, h.wide i hi j (by omega)]
theorem tr_prod (h : Sz r n M) (k : Sz n c N) : prodN (trN N n c) (trN M r n) n r c = trN (prodN M N n c r) r c :=
  (prod_sz (tr_sz k) r _).ext (tr_sz (prod_sz h c N)) fun a ha => by
    rw [fn_prod (tr_sz k) (tr_sz h) a ha, fn_tr (prod_sz h c N) a ha]
    funext i
    show sm n (fun b => fn (trN N n c) a b * fn (trN M r n) b i) = if i < r then fn (prodN M N n c r) i a else 0
    have e : sm n (fun b => fn (trN N n c) a b * fn (trN M r n) b i) = sm n fun b => fn N b a * if i < r then fn M i b else 0 := sm_congr fun b hb => by
      rw [fn_tr k a ha, fn_tr h b hb]
      show (if b < n then fn N b a else 0) * (if i < r then fn M i b else 0) = _
      rw [if_pos hb]
    rw [e]
    by_cases hi : i < r
    · rw [if_pos hi, fn_prod h k i hi]
      exact sm_congr fun b _ => by rw [if_pos hi, laws.mul_comm]
    · rw [if_neg hi]
      exact sm_zero laws n fun b _ => by rw [if_neg hi, laws.mul_zero]
/-- The reduced matrix: reduced, the same span. -/
theorem red_of (h : Sz r c M) : RedL c (reduceN M) ∧ SameSpan (reduceN M) M := by
  rcases Nat.eq_zero_or_pos r with h0 | hr
  · obtain rfl : M = [] := List.eq_nil_of_length_eq_zero (h.1.trans h0)
    have e : reduceN [] = [] := by rw [reduceN, if_pos h.fits]; rfl
    rw [e]
    exact ⟨redL_nil c, SameSpan.refl []⟩
  · rw [reduceN, if_pos h.fits, h.sizeC hr]
    have := reduceTo_red h.2 M.length (Nat.le_refl _)
    rwa [List.take_length] at this
/-- The rank. -/
def rk (M : List (List Nat)) : Nat := (reduceN M).length
theorem rk_has (h : Sz r c M) : HasRank r (fn M) (rk M) := by
  have := rank_of (red_of h).1 (red_of h).2
  rwa [h.1] at this
theorem rk_le (h : Sz r c M) : rk M ≤ r ∧ rk M ≤ c := ⟨rank_le_rows laws (rk_has h), redL_length (red_of h).1⟩
theorem rk_prod (h : Sz r n M) (k : Sz n c N) : rk (prodN M N n c r) ≤ rk M ∧ rk (prodN M N n c r) ≤ rk N := by
  have hp := hasRank_congr laws (fn_prod h k) (rk_has (prod_sz h c N))
  exact ⟨rank_mul_left laws hp (rk_has h), rank_mul_right laws hp (rk_has k)⟩
theorem rk_tr (h : Sz r c M) : rk (trN M r c) = rk M :=
  (rank_tr laws h.wide (rk_has h) (hasRank_congr laws (fn_tr h) (rk_has (tr_sz h)))).symm
theorem rk_id (n : Nat) : rk (idN n n) = n := by
  have h := hasRank_congr laws (fun i hi => fn_id hi) (rk_has (id_sz n))
  exact free_rank laws (free_units laws n) h
theorem reduce_same {s : Nat} (h : Sz r c M) (k : Sz s c N) (e : SameSpan M N) : reduceN M = reduceN N :=
  red_unique (red_of h).1 (red_of k).1 (((red_of h).2.trans e).trans (red_of k).2.symm)
end
section
variable {n : Nat} {M N V A : List (List Nat)}
theorem fn_wide (h : Sz n n M) : ∀ k, k < n → fn (wideN M n) k = pairV n (fn M k) (unitM k) := fun k hk => funext fun j => by
  have hw := h.at_ hk
  show vec ((wideN M n).getD k []) j = _
  rw [wideN_at M n k hk]
  rcases Nat.lt_or_ge j n with hj | hj
  · rw [pair_left hj]
    show byte ((M.getD k [] ++ vUnit n k).getD j 0) = byte ((M.getD k []).getD j 0)
    rw [List.getD_eq_getElem?_getD, List.getElem?_append_left (by rw [hw.1]; exact hj), ← List.getD_eq_getElem?_getD]
  · obtain ⟨i, rfl⟩ : ∃ i, j = n + i := ⟨j - n, by omega⟩
    rw [pair_right, ← vec_unit hk]
    show byte ((M.getD k [] ++ vUnit n k).getD (n + i) 0) = byte ((vUnit n k).getD i 0)
    rw [List.getD_eq_getElem?_getD, List.getElem?_append_right (by rw [hw.1]; omega), hw.1, Nat.add_sub_cancel_left, ← List.getD_eq_getElem?_getD]
theorem inv_eq (h : Sz n n M) (hn : 1 ≤ n) (hr : rk M = n) : invE M = 0 ∧ invV M = (reduceTo (n + n) (wideN M n) n).map (List.drop n) := by
  have e : invE M = 0 := by
    rw [invE, if_neg (by rw [h.sizeC hn, h.1]; exact fun e => e.elim (fun e => e h.fits) fun e => e rfl), if_neg (by have := h.1; unfold rk at hr; omega)]
  exact ⟨e, by rw [invV, if_pos e, h.1]⟩
/-- From the left. -/
theorem inv_left (h : Sz n n M) (hn : 1 ≤ n) (hr : rk M = n) : Sz n n (invV M) ∧ prodN (invV M) M n n n = idN n n := by
  rw [(inv_eq h hn hr).2]
  obtain ⟨R, hR⟩ : ∃ R, reduceTo (n + n) (wideN M n) n = R := ⟨_, rfl⟩
  have hred := reduceTo_red (wideN_ok h.2 h.1) n (by rw [wideN_len]; exact Nat.le_refl _)
  rw [List.take_of_length_le (by rw [wideN_len]; exact Nat.le_refl _), hR] at hred
  have hl : R.length = n := by rw [← hR]; exact wide_full h.2 h.1
  rw [hR]
  obtain ⟨⟨hok, l, hRed⟩, hs⟩ := hred
  rw [hl] at hRed
  have hw : Within n (fn R) n (fn (wideN M n)) := by have := hs.1; rwa [hl, wideN_len] at this
  have hC : ∃ C : Nat → Nat → By, ∀ i, i < n → fn R i = pairV n (comb n (fn M) (C i)) (comb n unitM (C i)) := by
    refine ⟨fun i => if hi : i < n then Classical.choose (hw i hi) else fun _ => 0, fun i hi => ?_⟩
    simp only [dif_pos hi]
    rw [← comb_pair, ← comb_congr _ (fn_wide h)]
    exact Classical.choose_spec (hw i hi)
  obtain ⟨C, hC⟩ := hC
  have hfree : Free n (fn M) := free_of_rank laws (by have := rk_has h; rwa [hr] at this)
  have hwl : ∀ i, i < n → Wide n (comb n (fn M) (C i)) := fun i _ => InSpan.wide laws ⟨C i, rfl⟩ h.wide
  have hln : ∀ i, i < n → l i < n := fun i hi => by
    rcases Nat.lt_or_ge (l i) n with h1 | h1
    · exact h1
    · exfalso
      have hz : ∀ j, comb n (fn M) (C i) j = 0 := fun j => by
        rcases Nat.lt_or_ge j n with hj | hj
        · have := hRed.low i j hi (by omega)
          rw [hC i hi, pair_left hj] at this
          exact this
        · exact hwl i hi j hj
      have hc := hfree (C i) hz
      have h1' := hRed.one i hi
      obtain ⟨a, ha⟩ : ∃ a, l i = n + a := ⟨l i - n, by omega⟩
      rw [hC i hi, ha, pair_right] at h1'
      have : comb n unitM (C i) a = 0 := sm_zero laws n fun k hk => by rw [hc k hk, laws.zero_mul]
      rw [this] at h1'
      exact laws.nought h1'.symm
  have hli : ∀ i, i < n → l i = i := fun i hi => by
    have e1 := hRed.lead_le hi
    have e2 := hRed.lead_top hln hi
    omega
  have hunit : ∀ i, i < n → comb n (fn M) (C i) = unitM i := fun i hi => funext fun j => by
    show _ = if j = i then 1 else 0
    rcases Nat.lt_or_ge j n with hj | hj
    · have e : fn R i j = comb n (fn M) (C i) j := by rw [hC i hi, pair_left hj]
      rw [← e]
      by_cases h1 : j = i
      · rw [if_pos h1, h1]
        have := hRed.one i hi
        rwa [hli i hi] at this
      · rw [if_neg h1]
        have := hRed.zero j i hj hi (fun e => h1 e.symm)
        rwa [hli j hj] at this
    · rw [hwl i hi j hj, if_neg (by omega)]
  have hV : Sz n n (R.map (List.drop n)) := ⟨by rw [List.length_map, hl], fun x hx => by
    obtain ⟨y, hy, rfl⟩ := List.mem_map.1 hx
    exact ⟨by rw [List.length_drop, (hok y hy).1]; omega, fun z hz => (hok y hy).2 z (List.mem_of_mem_drop hz)⟩⟩
  have hfV : ∀ i, i < n → fn (R.map (List.drop n)) i = comb n unitM (C i) := fun i hi => funext fun j => by
    have e : (R.map (List.drop n)).getD i [] = (R.getD i []).drop n := by
      rw [List.getD_eq_getElem?_getD, List.getElem?_map, List.getElem?_eq_getElem (by rw [hl]; exact hi), List.getD_eq_getElem?_getD, List.getElem?_eq_getElem (by rw [hl]; exact hi)]; rfl
    have e2 : comb n unitM (C i) j = fn R i (n + j) := by rw [hC i hi, pair_right]
    rw [e2, fn, e]
    show byte (((R.getD i []).drop n).getD j 0) = byte ((R.getD i []).getD (n + j) 0)
    rw [List.getD_eq_getElem?_getD, List.getElem?_drop, ← List.getD_eq_getElem?_getD]
  refine ⟨hV, (prod_sz hV n M).ext (id_sz n) fun i hi => ?_⟩
  rw [fn_prod hV h i hi, fn_id hi]
  show comb n (fn M) (fn (R.map (List.drop n)) i) = unitM i
  rw [hfV i hi, comb_comb laws, comb_congr (M := mulM n unitM (fn M)) (N := fn M) (C i) fun k hk => unit_mul laws hk (fn M)]
  exact hunit i hi
theorem full_of_left (h : Sz n n M) (k : Sz n n N) (e : prodN N M n n n = idN n n) : rk N = n ∧ rk M = n := by
  have hp := rk_prod k h
  rw [e, rk_id] at hp
  have h1 := (rk_le k).1
  have h2 := (rk_le h).1
  omega
/-- From the right. -/
theorem inv_right (h : Sz n n M) (hn : 1 ≤ n) (hr : rk M = n) : prodN M (invV M) n n n = idN n n := by
  obtain ⟨hV, e⟩ := inv_left h hn hr
  have hrV := (full_of_left h hV e).1
  obtain ⟨hU, e2⟩ := inv_left hV hn hrV
  have : prodN (invV (invV M)) (idN n n) n n n = M := by
    rw [← e, ← prod_assoc hU hV h, e2, id_prod h]
  rw [prod_id hU] at this
  rw [this] at e2
  exact e2
/-- Just one. -/
theorem inv_only (h : Sz n n M) (k : Sz n n A) (hn : 1 ≤ n) (e : prodN A M n n n = idN n n) : invV M = A := by
  have hr := (full_of_left h k e).2
  have hV := (inv_left h hn hr).1
  have : prodN (prodN A M n n n) (invV M) n n n = A := by rw [prod_assoc k h hV, inv_right h hn hr, prod_id k]
  rw [e, id_prod hV] at this
  exact this
theorem inv_inv (h : Sz n n M) (hn : 1 ≤ n) (hr : rk M = n) : rk (invV M) = n ∧ invV (invV M) = M := by
  obtain ⟨hV, e⟩ := inv_left h hn hr
  exact ⟨(full_of_left h hV e).1, inv_only hV h hn (inv_right h hn hr)⟩
theorem inv_prod (h : Sz n n M) (k : Sz n n N) (hn : 1 ≤ n) : (rk (prodN M N n n n) = n ↔ rk M = n ∧ rk N = n) ∧ (rk M = n → rk N = n → invV (prodN M N n n n) = prodN (invV N) (invV M) n n n) := by
  have key : rk M = n → rk N = n → prodN (prodN (invV N) (invV M) n n n) (prodN M N n n n) n n n = idN n n := fun h1 h2 => by
    obtain ⟨hV, e⟩ := inv_left h hn h1
    obtain ⟨hU, e2⟩ := inv_left k hn h2
    rw [prod_assoc hU hV (prod_sz h n N), ← prod_assoc hV h k, e, id_prod k, e2]
  refine ⟨⟨fun e => ?_, fun e => ?_⟩, fun h1 h2 => ?_⟩
  · have hp := rk_prod h k
    have h1 := (rk_le h).1
    have h2 := (rk_le k).1
    omega
  · exact (full_of_left (prod_sz h n N) (prod_sz (inv_left k hn e.2).1 n _) (key e.1 e.2)).2
  · exact inv_only (prod_sz h n N) (prod_sz (inv_left k hn h2).1 n _) hn (key h1 h2)
theorem inv_none (h : Sz n n M) (hn : 1 ≤ n) (hr : rk M ≠ n) : invE M = 24 ∧ invV M = [] := by
  have e : invE M = 24 := by
    rw [invE, if_neg (by rw [h.sizeC hn, h.1]; exact fun e => e.elim (fun e => e h.fits) fun e => e rfl), if_pos (by have h1 := (rk_le h).1; have h2 := h.1; unfold rk at hr h1; omega)]
  exact ⟨e, by rw [invV, e]; rfl⟩
end
end Go.Proofs.YtcjjhblgejkkeaaGreat
/- What layer 6's answers are to one another: one form, ranks of rows together, solving (plain). -/
namespace Go.Proofs.YtcjjhblgejkkeaaGreat
open Lin
theorem within_mem {A B : List (List Nat)} (h : ∀ r ∈ A, r ∈ B) : Within A.length (fn A) B.length (fn B) := fun i hi => by
  obtain ⟨j, hj, e⟩ := List.getElem_of_mem (h _ (List.getElem_mem hi))
  have e2 : fn A i = fn B j := by rw [fn, fn, List.getD_eq_getElem?_getD, List.getElem?_eq_getElem hi, List.getD_eq_getElem?_getD, List.getElem?_eq_getElem hj, e]
  rw [e2]; exact InSpan.row laws (fn B) hj
theorem same_mem {A B : List (List Nat)} (h : ∀ r, r ∈ A ↔ r ∈ B) : SameSpan A B := ⟨within_mem fun r hr => (h r).1 hr, within_mem fun r hr => (h r).2 hr⟩
section
variable {r c s n : Nat} {M N R : List (List Nat)}
theorem Sz.mem (h : Sz r c M) {N : List (List Nat)} (hm : ∀ x ∈ N, x ∈ M) : Sz N.length c N := ⟨rfl, fun x hx => h.2 x (hm x hx)⟩
theorem Sz.get_mem (h : Sz r c M) {i : Nat} (hi : i < r) : M.getD i [] ∈ M := by
  rw [List.getD_eq_getElem?_getD, List.getElem?_eq_getElem (by rw [h.1]; exact hi)]; exact List.getElem_mem _
theorem Sz.append (h : Sz r c M) (k : Sz s c N) : Sz (r + s) c (M ++ N) := ⟨by rw [List.length_append, h.1, k.1], fun x hx => by
  rcases List.mem_append.1 hx with e | e
  · exact h.2 x e
  · exact k.2 x e⟩
theorem Sz.one {v : List Nat} (hl : v.length = c) (ha : AllB v) : Sz 1 c [v] := ⟨rfl, fun x hx => by simp at hx; subst hx; exact ⟨hl, ha⟩⟩
theorem Sz.set (h : Sz r c M) {i : Nat} {v : List Nat} (hl : v.length = c) (ha : AllB v) : Sz r c (M.set i v) := ⟨by rw [List.length_set, h.1], fun x hx => by
  rcases List.mem_or_eq_of_mem_set hx with e | rfl
  · exact h.2 x e
  · exact ⟨hl, ha⟩⟩
theorem red_sz (h : Sz r c M) : Sz (rk M) c (reduceN M) := ⟨rfl, (red_of h).1.1⟩
/-- Rows in another order. -/
theorem form_turned (h : Sz r c M) (k : Nat) : Sz r c (M.drop k ++ M.take k) ∧ reduceN (M.drop k ++ M.take k) = reduceN M := by
  have hm : ∀ x, x ∈ M.drop k ++ M.take k ↔ x ∈ M := fun x => by
    rw [List.mem_append, or_comm, ← List.mem_append, List.take_append_drop]
  have hs : Sz r c (M.drop k ++ M.take k) := ⟨by rw [List.length_append, List.length_drop, List.length_take, h.1]; omega, fun x hx => h.2 x ((hm x).1 hx)⟩
  exact ⟨hs, reduce_same hs h (same_mem hm)⟩
/-- A row twice. -/
theorem form_twice (h : Sz r c M) {k : Nat} (hk : k < r) : Sz (r + 1) c (M ++ [M.getD k []]) ∧ reduceN (M ++ [M.getD k []]) = reduceN M := by
  have hs : Sz (r + 1) c (M ++ [M.getD k []]) := h.append (Sz.one (h.at_ hk).1 (h.at_ hk).2)
  refine ⟨hs, reduce_same hs h (same_mem fun x => ?_)⟩
  rw [List.mem_append, List.mem_singleton]
  exact ⟨fun e => e.elim id fun e => e ▸ h.get_mem hk, Or.inl⟩
theorem fn_set (h : Sz r c M) {a i : Nat} {v : List Nat} (ha : a < r) : fn (M.set a v) i = if i = a then vec v else fn M i := by
  rw [fn, List.getD_eq_getElem?_getD, List.getElem?_set]
  by_cases e : i = a
  · subst e; rw [if_pos rfl, if_pos rfl, if_pos (by rw [h.1]; exact ha)]; rfl
  · rw [if_neg (fun e2 => e e2.symm), if_neg e, ← List.getD_eq_getElem?_getD]; rfl
/-- A row added to another. -/
theorem form_added (h : Sz r c M) {a b x : Nat} (ha : a < r) (hb : b < r) (hne : a ≠ b) (hx : x < 256) : Sz r c (M.set a (vAddS c (M.getD a []) (M.getD b []) x)) ∧ SameSpan (M.set a (vAddS c (M.getD a []) (M.getD b []) x)) M := by
  have hA := h.at_ ha
  have hB := h.at_ hb
  refine ⟨h.set (tab_length _ _) (vAddS_all hA.2 hB.2), ?_⟩
  have key := span_clear laws (m := r) (R := fn M) (S := fn (M.set a (vAddS c (M.getD a []) (M.getD b []) x))) hb (by rw [fn_set h ha, if_neg (fun e => hne e.symm)]) (fun k => if k = a then byte x else 0) (fun k _ _ j => by
    rw [fn_set h ha]
    by_cases e : k = a
    · subst e
      rw [if_pos rfl, if_pos rfl, vec_vAddS hA.1 hB.1 hA.2 hB.2 hx]; rfl
    · rw [if_neg e, if_neg e, laws.zero_mul, laws.add_zero])
  unfold SameSpan
  rw [List.length_set, h.1]
  exact key
/-- A row scaled. -/
theorem form_scaled (h : Sz r c M) {a x : Nat} (ha : a < r) (hx : x < 256) (h0 : x ≠ 0) : Sz r c (M.set a (vScale c (M.getD a []) x)) ∧ SameSpan (M.set a (vScale c (M.getD a []) x)) M := by
  have hA := h.at_ ha
  refine ⟨h.set (tab_length _ _) (vScale_all hA.2), ?_⟩
  have hb : byte x ≠ 0 := fun e => h0 (by have := congrArg By.v e; rwa [byte_v hx] at this)
  have key := span_scale laws (m := r) (r := a) (R := fn M) (S := fn (M.set a (vScale c (M.getD a []) x))) (a := byte x) ha hb (fun i _ hi => by rw [fn_set h ha, if_neg hi]) (fun j => by rw [fn_set h ha, if_pos rfl, vec_vScale hA.1 hA.2 hx]; rfl)
  unfold SameSpan
  rw [List.length_set, h.1]
  exact key
/-- The reduced matrix is its own. -/
theorem form_own (h : Sz r c M) : reduceN (reduceN M) = reduceN M := reduce_same (red_sz h) h (red_of h).2
/-- With the rows behind it, its rank. -/
theorem form_rank (h : Sz r c M) : Sz (rk M + r) c (reduceN M ++ M) ∧ rk (reduceN M ++ M) = rk M := by
  have hs := (red_sz h).append h
  refine ⟨hs, ?_⟩
  have e := reduce_same hs h ⟨within_append (red_of h).2.1 (Within.refl laws _ _), within_right⟩
  unfold rk; rw [e]
/-- The leads of the reduced matrix. -/
theorem form_leads (h : Sz r c M) : ∃ l : Nat → Nat, (∀ i, i < rk M → vLead c ((reduceN M).getD i []) = (l i : Int) ∧ l i < c) ∧ (∀ i j, i < j → j < rk M → l i < l j) ∧ (∀ i, i < rk M → ((reduceN M).getD i []).getD (l i) 0 = 1) ∧ ∀ i k, i < rk M → k < rk M → i ≠ k → ((reduceN M).getD k []).getD (l i) 0 = 0 := by
  obtain ⟨⟨hok, l, hl⟩, _⟩ := red_of h
  have hv : ∀ k, k < rk M → ∀ j, (fn (reduceN M) k j).v = ((reduceN M).getD k []).getD j 0 := fun k hk j => vec_v (hok.at_ hk).2 j
  refine ⟨l, fun i hi => red_lead hok hl hi, hl.inc, fun i hi => ?_, fun i k hi hk hne => ?_⟩
  · rw [← hv i hi, hl.one i hi]; rfl
  · rw [← hv k hk, hl.zero i k hi hk hne.symm]; rfl
/-- Each row, cleared by the reduced matrix, is nought. -/
theorem form_clears (h : Sz r c M) {i : Nat} (hi : i < r) : ∀ j, (clearTo c (reduceN M) (M.getD i []) (rk M)).getD j 0 = 0 := fun j => by
  obtain ⟨⟨hok, l, hl⟩, hs⟩ := red_of h
  have hA := h.at_ hi
  have e := vec_clearTo hok hl hA.1 hA.2 (rk M) (Nat.le_refl _)
  have hz := (clearSeq_span laws hl (vec (M.getD i []))).1 (hs.2 i (by rw [h.1]; exact hi))
  have h2 : vec (clearTo c (reduceN M) (M.getD i []) (rk M)) j = 0 := by rw [e]; exact congrFun hz j
  have := congrArg By.v h2
  rwa [vec_v (clearTo_all hok hA.2 (rk M) (Nat.le_refl _))] at this
end
section
variable {r c s n : Nat} {M N O : List (List Nat)}
theorem rk_mono (h : Sz r c M) (k : Sz s c N) (hw : Within M.length (fn M) N.length (fn N)) : rk M ≤ rk N := by
  rw [h.1, k.1] at hw
  exact rank_mono laws hw (rk_has h) (rk_has k)
theorem rk_within (h : Sz r c M) (hw : Within M.length (fn M) N.length (fn N)) : rk M ≤ N.length := by
  rw [h.1] at hw
  exact rank_le laws hw (rk_has h)
/-- The rank of two matrices' rows together. -/
theorem rk_append (h : Sz r c M) (k : Sz s c N) : rk (M ++ N) ≤ rk M + rk N ∧ rk M ≤ rk (M ++ N) ∧ rk N ≤ rk (M ++ N) := by
  refine ⟨?_, rk_mono h (h.append k) within_left, rk_mono k (h.append k) within_right⟩
  have := rk_within (h.append k) (N := reduceN M ++ reduceN N) (same_append (red_of h).2 (red_of k).2).2
  rwa [List.length_append] at this
/-- Of their sum. -/
def sumN (c : Nat) (M N : List (List Nat)) (k : Nat) : List (List Nat) := (List.range k).map fun i => vAdd c (M.getD i []) (N.getD i [])
theorem sumN_succ (c : Nat) (M N : List (List Nat)) (k : Nat) : sumN c M N (k + 1) = sumN c M N k ++ [vAdd c (M.getD k []) (N.getD k [])] := by simp [sumN, List.range_succ]
theorem vAdd_all {n : Nat} {xs ys : List Nat} (hx : AllB xs) (hy : AllB ys) : AllB (vAdd n xs ys) := fun x hm => by
  obtain ⟨i, _, rfl⟩ := List.mem_map.1 hm
  exact xor_lt (hx.getD i) (hy.getD i)
theorem sum_sz (h : Sz r c M) (k : Sz r c N) : Sz r c (sumN c M N r) := ⟨by simp [sumN], fun x hx => by
  obtain ⟨i, hi, rfl⟩ := List.mem_map.1 hx
  have hi := List.mem_range.1 hi
  exact ⟨tab_length _ _, vAdd_all (h.at_ hi).2 (k.at_ hi).2⟩⟩
theorem rk_sum (h : Sz r c M) (k : Sz r c N) : rk (sumN c M N r) ≤ rk M + rk N := by
  have hw : Within (sumN c M N r).length (fn (sumN c M N r)) (reduceN M ++ reduceN N).length (fn (reduceN M ++ reduceN N)) := fun i hi => by
    rw [(sum_sz h k).1] at hi
    have e : fn (sumN c M N r) i = fun j => fn M i j + fn N i j := funext fun j => by
      have e1 : (sumN c M N r).getD i [] = vAdd c (M.getD i []) (N.getD i []) := by rw [sumN, List.getD_eq_getElem?_getD, List.getElem?_map, List.getElem?_range hi]; rfl
      apply By.ext
      rw [fn, e1, vec_v (vAdd_all (h.at_ hi).2 (k.at_ hi).2), add_v]
      show _ = (vec (M.getD i []) j).v ^^^ (vec (N.getD i []) j).v
      rw [vec_v (h.at_ hi).2, vec_v (k.at_ hi).2, vAdd, tab_getD]
      by_cases hj : j < c
      · rw [if_pos hj]
      · rw [if_neg hj, List.getD_eq_getElem?_getD, List.getElem?_eq_none (by rw [(h.at_ hi).1]; omega), List.getD_eq_getElem?_getD, List.getElem?_eq_none (by rw [(k.at_ hi).1]; omega)]; rfl
    rw [e]
    have hs := same_append (red_of h).2 (red_of k).2
    have w1 : Within M.length (fn M) (reduceN M ++ reduceN N).length (fn (reduceN M ++ reduceN N)) := (red_of h).2.2.trans laws within_left
    have w2 : Within N.length (fn N) (reduceN M ++ reduceN N).length (fn (reduceN M ++ reduceN N)) := (red_of k).2.2.trans laws within_right
    exact InSpan.add laws (w1 i (by rw [h.1]; exact hi)) (w2 i (by rw [k.1]; exact hi))
  have := rk_within (sum_sz h k) hw
  rwa [List.length_append] at this
/-- A row less. -/
theorem rk_less (h : Sz r c M) {k : Nat} (hk : k < r) : Sz (r - 1) c (M.take k ++ M.drop (k + 1)) ∧ rk (M.take k ++ M.drop (k + 1)) ≤ rk M ∧ rk M ≤ rk (M.take k ++ M.drop (k + 1)) + 1 := by
  have hs : Sz (r - 1) c (M.take k ++ M.drop (k + 1)) := ⟨by rw [List.length_append, List.length_take, List.length_drop, h.1]; omega, fun x hx => by
    rcases List.mem_append.1 hx with e | e
    · exact h.2 x (List.mem_of_mem_take e)
    · exact h.2 x (List.mem_of_mem_drop e)⟩
  refine ⟨hs, rk_mono hs h (within_mem fun x hx => ?_), ?_⟩
  · rcases List.mem_append.1 hx with e | e
    · exact List.mem_of_mem_take e
    · exact List.mem_of_mem_drop e
  · have hw : Within M.length (fn M) (reduceN (M.take k ++ M.drop (k + 1)) ++ [M.getD k []]).length (fn (reduceN (M.take k ++ M.drop (k + 1)) ++ [M.getD k []])) := by
      have w1 : Within M.length (fn M) ((M.take k ++ M.drop (k + 1)) ++ [M.getD k []]).length (fn ((M.take k ++ M.drop (k + 1)) ++ [M.getD k []])) := within_mem fun x hx => by
        obtain ⟨i, hi, e⟩ := List.getElem_of_mem hx
        rw [List.mem_append, List.mem_append, List.mem_singleton]
        rcases Nat.lt_trichotomy i k with h1 | h1 | h1
        · refine Or.inl (Or.inl ?_)
          rw [← e, List.mem_iff_getElem?]
          exact ⟨i, by rw [List.getElem?_take_of_lt h1, List.getElem?_eq_getElem hi]⟩
        · refine Or.inr ?_
          rw [← e, List.getD_eq_getElem?_getD, ← h1, List.getElem?_eq_getElem hi]; rfl
        · refine Or.inl (Or.inr ?_)
          rw [← e, List.mem_iff_getElem?]
          exact ⟨i - (k + 1), by rw [List.getElem?_drop, show k + 1 + (i - (k + 1)) = i by omega, List.getElem?_eq_getElem hi]⟩
      exact w1.trans laws (same_append (red_of hs).2 (SameSpan.refl _)).2
    have := rk_within h hw
    rwa [List.length_append] at this
end
section
variable {n : Nat} {M : List (List Nat)} {row : List Nat}
theorem prod_one (x : List Nat) (N : List (List Nat)) (n c : Nat) : prodN [x] N n c 1 = [rowN x N n c] := rfl
theorem comb_row (h : Sz n n M) (ha : AllB row) : vComb n M row n = rowN row M n n := tab_congr fun j _ => sumX_congr fun i hi => mul_comm' _ _ ((h.at_ hi).2.getD j) (ha.getD i)
/-- What is made is undone. -/
theorem solves (h : Sz n n M) (hn : 1 ≤ n) (hr : rk M = n) (hl : row.length = n) (ha : AllB row) :
    mulV [row] (invV M) = [rowN row (invV M) n n] ∧ mulE [row] (invV M) = 0 ∧ mulV [rowN row (invV M) n n] M = [row] ∧ mulE [rowN row (invV M) n n] M = 0 ∧ rowN (rowN row M n n) (invV M) n n = row := by
  have h1 : Sz 1 n [row] := Sz.one hl ha
  obtain ⟨hV, e⟩ := inv_left h hn hr
  have e2 := inv_right h hn hr
  have hx : Sz 1 n [rowN row (invV M) n n] := Sz.one (tab_length _ _) (rowN_all ha)
  have a := mulV_eq h1 hV (by omega) hn
  have b := mulV_eq hx h (by omega) hn
  refine ⟨a.1, a.2, ?_, b.2, ?_⟩
  · rw [b.1]
    have := prod_assoc h1 hV h
    rw [e, prod_id h1] at this
    exact this
  · have := prod_assoc h1 h hV
    rw [e2, prod_id h1] at this
    exact List.head_eq_of_cons_eq this
end
end Go.Proofs.YtcjjhblgejkkeaaGreat
