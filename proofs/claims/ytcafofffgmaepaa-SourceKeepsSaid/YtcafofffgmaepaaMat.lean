/- Matrices as lists of lists: the plain mathematics of layer 6's answers. -/
import Derived.Test.YtcafofffgmaepaaVec
import Derived.Test.YtcafofffgmaepaaBytes
import Derived.Test.YtcafofffgmaepaaLin
namespace Go.Proofs.Ytcafofffgmaepaa
/-- Are all rows of one length? -/
def fits (M : List (List Nat)) : Prop := ∀ r ∈ M, r.length = (M.headD []).length
instance (M : List (List Nat)) : Decidable (fits M) := by unfold fits; infer_instance
def sizeE (M : List (List Nat)) : Int := if fits M then 0 else 21
def sizeR (M : List (List Nat)) : Nat := if fits M then M.length else 0
def sizeC (M : List (List Nat)) : Nat := if fits M then (M.headD []).length else 0
/-- The identity. -/
def idN (n k : Nat) : List (List Nat) := (List.range k).map fun i => vUnit n i
theorem idN_succ (n k : Nat) : idN n (k + 1) = idN n k ++ [vUnit n k] := by simp [idN, List.range_succ]
/-- A column. -/
def colN (M : List (List Nat)) (k i : Nat) : List Nat := tab i fun j => (M.getD j []).getD k 0
theorem colN_succ (M : List (List Nat)) (k i : Nat) : colN M k (i + 1) = colN M k i ++ [(M.getD i []).getD k 0] := tab_succ _ _
def trN (M : List (List Nat)) (r k : Nat) : List (List Nat) := (List.range k).map fun c => colN M c r
theorem trN_succ (M : List (List Nat)) (r k : Nat) : trN M r (k + 1) = trN M r k ++ [colN M k r] := by simp [trN, List.range_succ]
/-- A product's number, its row, the product. -/
def dotN (r : List Nat) (N : List (List Nat)) (k n : Nat) : Nat := sumX (fun i => mulN (r.getD i 0) ((N.getD i []).getD k 0)) n
def rowN (r : List Nat) (N : List (List Nat)) (n c : Nat) : List Nat := tab c fun k => dotN r N k n
def prodN (M N : List (List Nat)) (n c k : Nat) : List (List Nat) := (M.take k).map fun r => rowN r N n c
/-- The row, cleared by the first k rows. -/
def clearTo (nc : Nat) (M : List (List Nat)) (row : List Nat) : Nat → List Nat
  | 0 => row
  | k + 1 => vAddS nc (clearTo nc M row k) (M.getD k []) ((clearTo nc M row k).getD (vLead nc (M.getD k [])).toNat 0)
theorem clearTo_len (nc : Nat) (M : List (List Nat)) (row : List Nat) (h : row.length = nc) : ∀ k, (clearTo nc M row k).length = nc
  | 0 => h
  | _ + 1 => tab_length _ _
theorem vAddS_all {n c : Nat} {xs ys : List Nat} (hx : AllB xs) (hy : AllB ys) : AllB (vAddS n xs ys c) := fun x hm => by
  obtain ⟨i, _, rfl⟩ := List.mem_map.1 hm
  exact xor_lt (hx.getD i) (mulN_lt _ (hy.getD i))
theorem vScale_all {n c : Nat} {xs : List Nat} (hx : AllB xs) : AllB (vScale n xs c) := fun x hm => by
  obtain ⟨i, _, rfl⟩ := List.mem_map.1 hm
  exact mulN_lt _ (hx.getD i)
/-- The other rows, cleared; the new one laid ahead of the first whose lead lies behind. -/
def layTo (nc : Nat) (M : List (List Nat)) (u : List Nat) (L : Nat) : Nat → List (List Nat) × Bool
  | 0 => ([], false)
  | k + 1 =>
    let p := layTo nc M u L k
    let hit := !p.2 && decide ((L : Int) < vLead nc (M.getD k []))
    ((if hit = true then p.1 ++ [u] else p.1) ++ [vAddS nc (M.getD k []) u ((M.getD k []).getD L 0)], p.2 || hit)
/-- A row put into a reduced matrix. -/
def insertN (nc : Nat) (M : List (List Nat)) (row : List Nat) : List (List Nat) :=
  let v := clearTo nc M row M.length
  if vLead nc v < 0 then M
  else
    let L := (vLead nc v).toNat
    let u := vScale nc v (invN (v.getD L 0))
    let p := layTo nc M u L M.length
    if p.2 = true then p.1 else p.1 ++ [u]
end Go.Proofs.Ytcafofffgmaepaa
/- A row put into a reduced matrix: it is reduced, and spans what both span. -/
namespace Go.Proofs.Ytcafofffgmaepaa
open Lin
/-- The lead that a reduced matrix's row has. -/
theorem red_lead {nc : Nat} {M : List (List Nat)} {l : Nat → Nat} (hM : RowsOk nc M) (hr : Red M.length (fn M) l) {k : Nat} (hk : k < M.length) : vLead nc (M.getD k []) = (l k : Int) ∧ l k < nc := by
  have hw := hM.at_ hk
  have hl : l k < nc := hr.lead_lt laws hM.wide hk
  have h1 : (M.getD k []).getD (l k) 0 = 1 := by
    have := congrArg By.v (hr.one k hk)
    rw [show (fn M k (l k)).v = (M.getD k []).getD (l k) 0 from vec_v hw.2 _] at this
    exact this
  have h0 : ∀ j, j < l k → (M.getD k []).getD j 0 = 0 := fun j hj => by
    have := congrArg By.v (hr.low k j hk hj)
    rw [show (fn M k j).v = (M.getD k []).getD j 0 from vec_v hw.2 _] at this
    exact this
  have e : vLeadTo (M.getD k []) nc = some (l k) := (vLeadTo_some _ nc _).2 ⟨hl, by rw [h1]; decide, h0⟩
  exact ⟨by rw [vLead, e], hl⟩
theorem vec_vAddS {n c : Nat} {xs ys : List Nat} (hx : xs.length = n) (hy : ys.length = n) (hxa : AllB xs) (hya : AllB ys) (hc : c < 256) : vec (vAddS n xs ys c) = fun j => vec xs j + byte c * vec ys j := by
  funext j
  apply By.ext
  rw [vec_v (vAddS_all hxa hya), vAddS, tab_getD, add_v, mul_v, vec_v hxa, vec_v hya, byte_v hc, mul_comm' c _ hc (hya.getD j)]
  by_cases h : j < n
  · rw [if_pos h]
  · rw [if_neg h, List.getD_eq_getElem?_getD, List.getElem?_eq_none (by omega), List.getD_eq_getElem?_getD, List.getElem?_eq_none (by omega)]
    show 0 = 0 ^^^ mulN 0 c
    rw [mul_zero_left]; rfl
theorem vec_vScale {n c : Nat} {xs : List Nat} (hx : xs.length = n) (hxa : AllB xs) (hc : c < 256) : vec (vScale n xs c) = fun j => byte c * vec xs j := by
  funext j
  apply By.ext
  rw [vec_v (vScale_all hxa), vScale, tab_getD, mul_v, vec_v hxa, byte_v hc, mul_comm' c _ hc (hxa.getD j)]
  by_cases h : j < n
  · rw [if_pos h]
  · rw [if_neg h, List.getD_eq_getElem?_getD, List.getElem?_eq_none (by omega)]
    show 0 = mulN 0 c
    rw [mul_zero_left]
theorem clearTo_all {nc : Nat} {M : List (List Nat)} {row : List Nat} (hM : RowsOk nc M) (hr : AllB row) : ∀ k, k ≤ M.length → AllB (clearTo nc M row k)
  | 0, _ => hr
  | k + 1, h => vAddS_all (clearTo_all hM hr k (by omega)) (hM.at_ (show k < M.length by omega)).2
/-- What is cleared row by row, as rows over the field. -/
theorem vec_clearTo {nc : Nat} {M : List (List Nat)} {row : List Nat} {l : Nat → Nat} (hM : RowsOk nc M) (hr : Red M.length (fn M) l) (hrow : row.length = nc) (hra : AllB row) : ∀ k, k ≤ M.length → vec (clearTo nc M row k) = clearSeq (fn M) l (vec row) k
  | 0, _ => rfl
  | k + 1, h => by
    have ih := vec_clearTo hM hr hrow hra k (by omega)
    have hk : k < M.length := by omega
    have ha := clearTo_all hM hra k (by omega)
    have hw := hM.at_ hk
    show vec (vAddS nc _ _ _) = _
    rw [vec_vAddS (clearTo_len nc M row hrow k) hw.1 ha hw.2 (ha.getD _), (red_lead hM hr hk).1, Int.toNat_natCast]
    funext j
    show vec (clearTo nc M row k) j + byte ((clearTo nc M row k).getD (l k) 0) * fn M k j = clearSeq (fn M) l (vec row) k j + clearSeq (fn M) l (vec row) k (l k) * fn M k j
    rw [← ih]
    rfl
/-- The other rows, cleared at the new lead. -/
def clearedL (nc : Nat) (M : List (List Nat)) (u : List Nat) (L : Nat) : List (List Nat) := M.map fun m => vAddS nc m u (m.getD L 0)
theorem take_map_succ (nc : Nat) (M : List (List Nat)) (u : List Nat) (L k : Nat) (hk : k < M.length) : (clearedL nc M u L).take (k + 1) = (clearedL nc M u L).take k ++ [vAddS nc (M.getD k []) u ((M.getD k []).getD L 0)] := by
  rw [List.take_add_one, clearedL, List.getElem?_map, List.getElem?_eq_getElem hk, List.getD_eq_getElem?_getD, List.getElem?_eq_getElem hk]; rfl
theorem layTo_eq {nc : Nat} {M : List (List Nat)} {u : List Nat} {L q : Nat} (hq : q ≤ M.length) (hlo : ∀ i, i < q → ¬ (L : Int) < vLead nc (M.getD i [])) (hhi : q < M.length → (L : Int) < vLead nc (M.getD q [])) :
    ∀ k, k ≤ M.length → layTo nc M u L k = if k ≤ q then ((clearedL nc M u L).take k, false) else ((clearedL nc M u L).take q ++ [u] ++ ((clearedL nc M u L).take k).drop q, true)
  | 0, _ => by rw [if_pos (Nat.zero_le _)]; rfl
  | k + 1, h => by
    have ih := layTo_eq (u := u) hq hlo hhi k (by omega)
    have hk : k < M.length := by omega
    have hl : (clearedL nc M u L).length = M.length := by simp [clearedL]
    rw [layTo, ih, take_map_succ nc M u L k hk]
    by_cases h1 : k < q
    · rw [if_pos (show k ≤ q by omega), if_pos (show k + 1 ≤ q by omega)]
      have e : decide ((L : Int) < vLead nc (M.getD k [])) = false := decide_eq_false (hlo k h1)
      simp only [e, Bool.and_false, Bool.or_false, if_neg (show ¬ (false = true) by decide)]
    · by_cases h2 : k = q
      · subst h2
        rw [if_pos (Nat.le_refl _), if_neg (show ¬ k + 1 ≤ k by omega)]
        have e : decide ((L : Int) < vLead nc (M.getD k [])) = true := decide_eq_true (hhi hk)
        have hd : ((clearedL nc M u L).take k ++ [vAddS nc (M.getD k []) u ((M.getD k []).getD L 0)]).drop k = [vAddS nc (M.getD k []) u ((M.getD k []).getD L 0)] := by
          rw [List.drop_append_of_le_length (by rw [List.length_take]; omega), List.drop_of_length_le (by rw [List.length_take]; omega)]; rfl
        simp only [e, Bool.not_false, Bool.and_self, if_pos, Bool.false_or, hd]
      · rw [if_neg (show ¬ k ≤ q by omega), if_neg (show ¬ k + 1 ≤ q by omega)]
        simp only [Bool.not_true, Bool.false_and, if_neg (show ¬ (false = true) by decide), Bool.true_or]
        rw [List.drop_append_of_le_length (by rw [List.length_take]; omega), List.append_assoc _ (((clearedL nc M u L).take k).drop q)]
theorem red_congr {r : Nat} {R S : Nat → Nat → By} {l m : Nat → Nat} (h : Red r R l) (he : ∀ i, i < r → R i = S i) (hl : ∀ i, i < r → l i = m i) : Red r S m :=
  ⟨fun i j hij hj => by rw [← hl i (by omega), ← hl j hj]; exact h.inc i j hij hj, fun i hi => by rw [← he i hi, ← hl i hi]; exact h.one i hi, fun i k hi hk hne => by rw [← he k hk, ← hl i hi]; exact h.zero i k hi hk hne, fun i j hi hj => by rw [← he i hi]; rw [← hl i hi] at hj; exact h.low i j hi hj⟩
theorem place {l : Nat → Nat} {L : Nat} : ∀ r, (∀ i j, i < j → j < r → l i < l j) → (∀ i, i < r → l i ≠ L) → ∃ q, q ≤ r ∧ (∀ i, i < q → l i < L) ∧ ∀ i, q ≤ i → i < r → L < l i
  | 0, _, _ => ⟨0, Nat.le_refl _, fun i hi => by omega, fun i _ hi => by omega⟩
  | r + 1, hinc, hne => by
    obtain ⟨q, h1, h2, h3⟩ := place r (fun i j hij hj => hinc i j hij (by omega)) fun i hi => hne i (by omega)
    by_cases e : q = r
    · subst e
      rcases Nat.lt_or_ge (l q) L with h | h
      · exact ⟨q + 1, Nat.le_refl _, fun i hi => by
          by_cases e : i = q
          · subst e; exact h
          · exact h2 i (by omega), fun i a b => by omega⟩
      · exact ⟨q, by omega, h2, fun i a b => by
          obtain rfl : i = q := by omega
          have := hne i (by omega); omega⟩
    · exact ⟨q, by omega, h2, fun i a b => by
        by_cases e2 : i = r
        · subst e2
          have := h3 q (Nat.le_refl _) (by omega)
          have := hinc q i (by omega) (by omega)
          omega
        · exact h3 i a (by omega)⟩
theorem fn_append_row (M : List (List Nat)) (row : List Nat) : ∀ i, i < M.length + 1 → fn (M ++ [row]) i = insM M.length (fn M) (vec row) i := fun i hi => by
  by_cases e : i < M.length
  · rw [insM_lt e, fn, fn, List.getD_eq_getElem?_getD, List.getD_eq_getElem?_getD, List.getElem?_append_left e]
  · obtain rfl : i = M.length := by omega
    rw [insM_at, fn, List.getD_eq_getElem?_getD, List.getElem?_append_right (Nat.le_refl _), Nat.sub_self]; rfl
theorem fn_insert (C : List (List Nat)) (u : List Nat) (q : Nat) (hq : q ≤ C.length) : ∀ i, i < C.length + 1 → fn (C.take q ++ [u] ++ C.drop q) i = insM q (fn C) (vec u) i := fun i hi => by
  have hl : (C.take q).length = q := by rw [List.length_take]; omega
  have hl2 : (C.take q ++ [u]).length = q + 1 := by rw [List.length_append, hl]; rfl
  rw [fn, List.getD_eq_getElem?_getD]
  rcases Nat.lt_trichotomy i q with e | e | e
  · rw [insM_lt e, fn, List.getD_eq_getElem?_getD, List.getElem?_append_left (by omega), List.getElem?_append_left (by omega), List.getElem?_take, if_pos e]
  · subst e
    rw [insM_at, List.getElem?_append_left (by omega), List.getElem?_append_right (by omega), hl, Nat.sub_self]; rfl
  · rw [insM_gt e, fn, List.getD_eq_getElem?_getD, List.getElem?_append_right (by omega), hl2, List.getElem?_drop]
    congr 3; omega
theorem insertN_red {nc : Nat} {M : List (List Nat)} {row : List Nat} (hM : RedL nc M) (hrow : row.length = nc) (hra : AllB row) : RedL nc (insertN nc M row) ∧ SameSpan (insertN nc M row) (M ++ [row]) := by
  obtain ⟨hok, l, hr⟩ := hM
  have hv := vec_clearTo hok hr hrow hra M.length (Nat.le_refl _)
  have hva := clearTo_all hok hra M.length (Nat.le_refl _)
  have hvl := clearTo_len nc M row hrow M.length
  have hsame : ∀ {N : List (List Nat)} {S : Nat → Nat → By}, N.length = M.length + 1 → (∀ i, i < M.length + 1 → fn N i = S i) → Within (M.length + 1) S (M.length + 1) (insM M.length (fn M) (vec row)) ∧ Within (M.length + 1) (insM M.length (fn M) (vec row)) (M.length + 1) S → SameSpan N (M ++ [row]) := fun {N S} hN he hw => by
    have hA : (M ++ [row]).length = M.length + 1 := by simp
    have e1 := within_congr laws (r := M.length + 1) he
    have e1' := within_congr laws (r := M.length + 1) fun i hi => (he i hi).symm
    have e2 := within_congr laws (r := M.length + 1) (fn_append_row M row)
    have e2' := within_congr laws (r := M.length + 1) fun i hi => (fn_append_row M row i hi).symm
    rw [SameSpan, hN, hA]
    exact ⟨(e1.trans laws hw.1).trans laws e2', (e2.trans laws hw.2).trans laws e1'⟩
  by_cases hlead : vLead nc (clearTo nc M row M.length) < 0
  · have hI : insertN nc M row = M := by rw [insertN]; exact if_pos hlead
    rw [hI]
    refine ⟨⟨hok, l, hr⟩, ?_⟩
    have hz : ∀ i, i < nc → (clearTo nc M row M.length).getD i 0 = 0 := by
      refine (vLeadTo_none _ nc).1 ?_
      unfold vLead at hlead
      split at hlead
      · omega
      · assumption
    have h0 : clearSeq (fn M) l (vec row) M.length = fun _ => 0 := by
      rw [← hv]
      funext j
      apply By.ext
      rw [vec_v hva]
      rcases Nat.lt_or_ge j nc with h | h
      · exact hz j h
      · rw [List.getD_eq_getElem?_getD, List.getElem?_eq_none (by omega)]; rfl
    have hin := (clearSeq_span laws hr (vec row)).2 h0
    have hm := within_more laws hin
    have hA : (M ++ [row]).length = M.length + 1 := by simp
    have e2 := within_congr laws (r := M.length + 1) (fn_append_row M row)
    have e2' := within_congr laws (r := M.length + 1) fun i hi => (fn_append_row M row i hi).symm
    rw [SameSpan, hA]
    exact ⟨hm.2.trans laws e2', e2.trans laws hm.1⟩
  · obtain ⟨L, hL⟩ : ∃ L, vLeadTo (clearTo nc M row M.length) nc = some L := by
      unfold vLead at hlead
      split at hlead
      · exact ⟨_, by assumption⟩
      · omega
    obtain ⟨hLn, hL0, hLz⟩ := (vLeadTo_some _ nc L).1 hL
    have hvL : vLead nc (clearTo nc M row M.length) = (L : Int) := by rw [vLead, hL]
    obtain ⟨v, hvv⟩ : ∃ v, clearTo nc M row M.length = v := ⟨_, rfl⟩
    obtain ⟨u, hu⟩ : ∃ u, vScale nc v (invN (v.getD L 0)) = u := ⟨_, rfl⟩
    rw [hvv] at hv hva hvl hL0 hLz hvL
    have ha := invN_lt (v.getD L 0)
    have hwu : vec u = fun j => byte (invN (v.getD L 0)) * vec v j := by rw [← hu]; exact vec_vScale hvl hva ha
    have hvn : ∀ i, i < M.length → vec v (l i) = 0 := fun i hi => by rw [hv]; exact clearSeq_nought laws hr (vec row) hi
    have hne : ∀ i, i < M.length → l i ≠ L := fun i hi e => hL0 (by
      have := congrArg By.v (hvn i hi)
      rw [vec_v hva, e] at this; exact this)
    obtain ⟨q, hq, hqlo, hqhi⟩ := place M.length hr.inc hne
    have hpos : 1 ≤ v.getD L 0 := by omega
    have hw1 : vec u L = 1 := by
      rw [hwu]; apply By.ext
      show mulN (byte (invN (v.getD L 0))).v (vec v L).v = 1
      rw [byte_v ha, vec_v hva, mul_comm' _ _ ha (hva.getD L), mul_inv _ (hva.getD L) hpos]
    have hwlow : ∀ j, j < L → vec u j = 0 := fun j hj => by
      rw [hwu]
      have : vec v j = 0 := By.ext (by rw [vec_v hva]; exact hLz j hj)
      show byte _ * vec v j = 0
      rw [this, laws.mul_zero]
    have hwz : ∀ i, i < M.length → vec u (l i) = 0 := fun i hi => by
      rw [hwu]
      show byte _ * vec v (l i) = 0
      rw [hvn i hi, laws.mul_zero]
    have hane : byte (invN (v.getD L 0)) ≠ 0 := fun e => by
      have h1 := congrArg By.v hw1
      rw [hwu] at h1
      have h2 : (byte (invN (v.getD L 0)) * vec v L) = 0 := by rw [e, laws.zero_mul]
      rw [show (fun j => byte (invN (v.getD L 0)) * vec v j) L = 0 from h2] at h1
      cases h1
    have hred := insert_red laws hr hq hqlo hqhi hwz hw1 hwlow
    have hspan := insert_span laws (R := fn M) (L := L) (w := vec u) (v := vec row) (c := fun i => vec row (l i)) hq hane (fun j => by
      rw [hwu]
      show byte _ * vec v j = byte _ * (vec row j + comb M.length (fn M) (fun i => vec row (l i)) j)
      rw [hv, clearSeq_eq laws hr (vec row) (Nat.le_refl _)])
    have hua : AllB u := by rw [← hu]; exact vScale_all hva
    have hul : u.length = nc := by rw [← hu]; exact tab_length _ _
    have hC : (clearedL nc M u L).length = M.length := by simp [clearedL]
    have hlay := layTo_eq (nc := nc) (M := M) (u := u) (L := L) hq (fun i hi e => by
        rw [(red_lead hok hr (show i < M.length by omega)).1] at e
        have := hqlo i hi; omega) (fun h => by
        rw [(red_lead hok hr h).1]
        have := hqhi q (Nat.le_refl _) h; omega) M.length (Nat.le_refl _)
    have hI : insertN nc M row = (clearedL nc M u L).take q ++ [u] ++ (clearedL nc M u L).drop q := by
      have e0 : insertN nc M row = if (layTo nc M u L M.length).2 = true then (layTo nc M u L M.length).1 else (layTo nc M u L M.length).1 ++ [u] := by
        rw [insertN, hvv]
        show (if vLead nc v < 0 then _ else _) = _
        rw [hvL, if_neg (by omega)]
        show (if (layTo nc M (vScale nc v (invN (v.getD ((L : Int)).toNat 0))) ((L : Int)).toNat M.length).2 = true then _ else _) = _
        rw [Int.toNat_natCast, hu]
      have hall : (clearedL nc M u L).take M.length = clearedL nc M u L := List.take_of_length_le (by omega)
      rw [e0, hlay]
      by_cases hqr : M.length ≤ q
      · obtain rfl : q = M.length := by omega
        rw [if_pos (Nat.le_refl _), if_neg (fun e => Bool.noConfusion e), List.drop_of_length_le (by omega), List.append_nil]
      · rw [if_neg hqr, if_pos rfl, hall]
    have hCfn : ∀ i, i < M.length → fn (clearedL nc M u L) i = clearM (fn M) L (vec u) i := fun i hi => by
      have hw := hok.at_ hi
      rw [fn, clearedL, List.getD_eq_getElem?_getD, List.getElem?_map, List.getElem?_eq_getElem hi]
      have e : M.getD i [] = M[i] := by rw [List.getD_eq_getElem?_getD, List.getElem?_eq_getElem hi]; rfl
      show vec (vAddS nc M[i] u (M[i].getD L 0)) = _
      rw [← e, vec_vAddS hw.1 hul hw.2 hua (hw.2.getD L)]
      rfl
    have hfn : ∀ i, i < M.length + 1 → fn (insertN nc M row) i = insM q (clearM (fn M) L (vec u)) (vec u) i := fun i hi => by
      rw [hI, fn_insert _ _ _ (by omega) i (by omega)]
      rcases Nat.lt_trichotomy i q with e | e | e
      · rw [insM_lt e, insM_lt e, hCfn i (by omega)]
      · subst e; rw [insM_at, insM_at]
      · rw [insM_gt e, insM_gt e, hCfn (i - 1) (by omega)]
    have hlen : (insertN nc M row).length = M.length + 1 := by
      rw [hI]; simp [hC]; omega
    refine ⟨⟨fun x hx => ?_, insM q l L, ?_⟩, hsame hlen hfn hspan⟩
    · rw [hI] at hx
      have hCm : ∀ y ∈ clearedL nc M u L, y.length = nc ∧ AllB y := fun y hy => by
        obtain ⟨m, hm, rfl⟩ := List.mem_map.1 hy
        exact ⟨tab_length _ _, vAddS_all (hok m hm).2 hua⟩
      simp only [List.mem_append, List.mem_singleton] at hx
      rcases hx with (hx | rfl) | hx
      · exact hCm x (List.mem_of_mem_take hx)
      · exact ⟨hul, hua⟩
      · exact hCm x (List.mem_of_mem_drop hx)
    · rw [hlen]; exact red_congr hred (fun i hi => (hfn i hi).symm) fun i hi => rfl
/-- Rows, put in one by one. -/
def reduceTo (nc : Nat) (M : List (List Nat)) (k : Nat) : List (List Nat) := (M.take k).foldl (insertN nc) []
theorem reduceTo_succ {nc : Nat} {M : List (List Nat)} {k : Nat} (hk : k < M.length) : reduceTo nc M (k + 1) = insertN nc (reduceTo nc M k) (M.getD k []) := by
  rw [reduceTo, List.take_add_one, List.getElem?_eq_getElem hk, Option.toList_some, List.foldl_append, List.getD_eq_getElem?_getD, List.getElem?_eq_getElem hk]; rfl
theorem within_left {A B : List (List Nat)} : Within A.length (fn A) (A ++ B).length (fn (A ++ B)) := fun i hi => by
  have e : fn (A ++ B) i = fn A i := by rw [fn, fn, List.getD_eq_getElem?_getD, List.getD_eq_getElem?_getD, List.getElem?_append_left hi]
  rw [← e]
  exact InSpan.row laws (fn (A ++ B)) (by rw [List.length_append]; omega)
theorem within_right {A B : List (List Nat)} : Within B.length (fn B) (A ++ B).length (fn (A ++ B)) := fun i hi => by
  have e : fn (A ++ B) (A.length + i) = fn B i := by rw [fn, fn, List.getD_eq_getElem?_getD, List.getD_eq_getElem?_getD, List.getElem?_append_right (by omega), Nat.add_sub_cancel_left]
  rw [← e]
  exact InSpan.row laws (fn (A ++ B)) (by rw [List.length_append]; omega)
theorem within_append {A B C : List (List Nat)} (h1 : Within A.length (fn A) C.length (fn C)) (h2 : Within B.length (fn B) C.length (fn C)) : Within (A ++ B).length (fn (A ++ B)) C.length (fn C) := fun i hi => by
  rcases Nat.lt_or_ge i A.length with h | h
  · have e : fn (A ++ B) i = fn A i := by rw [fn, fn, List.getD_eq_getElem?_getD, List.getD_eq_getElem?_getD, List.getElem?_append_left h]
    rw [e]; exact h1 i h
  · have e : fn (A ++ B) i = fn B (i - A.length) := by rw [fn, fn, List.getD_eq_getElem?_getD, List.getD_eq_getElem?_getD, List.getElem?_append_right h]
    rw [e]; rw [List.length_append] at hi; exact h2 _ (by omega)
theorem same_append {A B C D : List (List Nat)} (h1 : SameSpan A C) (h2 : SameSpan B D) : SameSpan (A ++ B) (C ++ D) :=
  ⟨within_append (h1.1.trans laws within_left) (h2.1.trans laws within_right), within_append (h1.2.trans laws within_left) (h2.2.trans laws within_right)⟩
theorem redL_nil (nc : Nat) : RedL nc [] := ⟨fun r hr => by simp at hr, fun _ => 0, ⟨fun i j _ hj => by simp at hj, fun i hi => by simp at hi, fun i k hi => by simp at hi, fun i j hi => by simp at hi⟩⟩
theorem reduceTo_red {nc : Nat} {M : List (List Nat)} (hM : RowsOk nc M) : ∀ k, k ≤ M.length → RedL nc (reduceTo nc M k) ∧ SameSpan (reduceTo nc M k) (M.take k)
  | 0, _ => ⟨redL_nil nc, by rw [List.take_zero]; exact SameSpan.refl []⟩
  | k + 1, h => by
    have hk : k < M.length := by omega
    obtain ⟨h1, h2⟩ := reduceTo_red hM k (by omega)
    have hw := hM.at_ hk
    have h3 := insertN_red h1 hw.1 hw.2
    rw [reduceTo_succ hk]
    refine ⟨h3.1, h3.2.trans ?_⟩
    have e : M.take (k + 1) = M.take k ++ [M.getD k []] := by rw [List.take_add_one, List.getElem?_eq_getElem hk, List.getD_eq_getElem?_getD, List.getElem?_eq_getElem hk]; rfl
    rw [e]
    exact same_append h2 (SameSpan.refl _)
/-- The rows of a reduced matrix have leads. -/
theorem redL_leads {nc : Nat} {M : List (List Nat)} (h : RedL nc M) : ∀ r ∈ M, r.length = nc ∧ 0 ≤ vLead nc r := fun r hr => by
  obtain ⟨hok, l, hl⟩ := h
  obtain ⟨i, hi, e⟩ := List.getElem_of_mem hr
  have := (red_lead hok hl hi).1
  rw [List.getD_eq_getElem?_getD, List.getElem?_eq_getElem hi, Option.getD_some, e] at this
  exact ⟨(hok r hr).1, by rw [this]; omega⟩
theorem redL_length {nc : Nat} {M : List (List Nat)} (h : RedL nc M) : M.length ≤ nc := by
  obtain ⟨hok, l, hl⟩ := h
  rcases Nat.eq_zero_or_pos M.length with e | e
  · omega
  · have h1 := hl.lead_top (n := nc) (fun i hi => (red_lead hok hl hi).2) e
    omega
end Go.Proofs.Ytcafofffgmaepaa
/- The document's answers of layer 6 in plain terms. -/
namespace Go.Proofs.Ytcafofffgmaepaa
open Lin
/-- The document's reduced matrix. -/
def reduceN (M : List (List Nat)) : List (List Nat) := if fits M then reduceTo (sizeC M) M M.length else []
/-- The document's product. -/
def mulR (M N : List (List Nat)) : Prop := fits M ∧ fits N ∧ sizeC M = sizeR N
instance (M N : List (List Nat)) : Decidable (mulR M N) := by unfold mulR; infer_instance
def mulE (M N : List (List Nat)) : Int := if mulR M N then 0 else 21
def mulV (M N : List (List Nat)) : List (List Nat) := if mulR M N then prodN M N (sizeC M) (sizeC N) M.length else []
/-- The rows, each with a unit behind it. -/
def wideN (M : List (List Nat)) (n : Nat) : List (List Nat) := (List.range n).map fun i => M.getD i [] ++ vUnit n i
theorem wideN_len (M : List (List Nat)) (n : Nat) : (wideN M n).length = n := by simp [wideN]
theorem wideN_at (M : List (List Nat)) (n i : Nat) (h : i < n) : (wideN M n).getD i [] = M.getD i [] ++ vUnit n i := by
  rw [wideN, List.getD_eq_getElem?_getD, List.getElem?_map, List.getElem?_range h]; rfl
theorem vUnit_all (n k : Nat) : AllB (vUnit n k) := fun x hx => by
  obtain ⟨i, _, rfl⟩ := List.mem_map.1 hx
  show (if i = k then 1 else 0) < 256
  split <;> decide
theorem wideN_ok {M : List (List Nat)} {n : Nat} (hM : RowsOk n M) (hl : M.length = n) : RowsOk (n + n) (wideN M n) := fun x hx => by
  obtain ⟨i, hi, rfl⟩ := List.mem_map.1 hx
  have hw := hM.at_ (show i < M.length by rw [hl]; exact List.mem_range.1 hi)
  exact ⟨by rw [List.length_append, hw.1, vUnit, tab_length], hw.2.append (vUnit_all n i)⟩
theorem wide_free {M : List (List Nat)} {n : Nat} (hM : RowsOk n M) (hl : M.length = n) : Free n (fn (wideN M n)) := fun c hc i hi => by
  have h := hc (n + i)
  have e : comb n (fn (wideN M n)) c (n + i) = c i := by
    have hone : ∀ k, k < n → fn (wideN M n) k (n + i) = if i = k then 1 else 0 := fun k hk => by
      have hw := hM.at_ (show k < M.length by omega)
      rw [fn, wideN_at M n k hk]
      apply By.ext
      rw [vec_v (hw.2.append (vUnit_all n k)), List.getD_eq_getElem?_getD, List.getElem?_append_right (by omega), hw.1, Nat.add_sub_cancel_left, ← List.getD_eq_getElem?_getD, vUnit, tab_getD, if_pos hi]
      split <;> rfl
    show sm n (fun k => c k * fn (wideN M n) k (n + i)) = c i
    rw [sm_one laws hi (fun k hk hne => by rw [hone k hk, if_neg (fun e => hne e.symm), laws.mul_zero]), hone i hi, if_pos rfl, laws.mul_one]
  rw [e] at h; exact h
theorem wide_full {M : List (List Nat)} {n : Nat} (hM : RowsOk n M) (hl : M.length = n) : (reduceTo (n + n) (wideN M n) n).length = n := by
  have hred := reduceTo_red (wideN_ok hM hl) n (by rw [wideN_len]; exact Nat.le_refl _)
  rw [List.take_of_length_le (by rw [wideN_len]; exact Nat.le_refl _)] at hred
  have hr := rank_of hred.1 hred.2
  rw [wideN_len] at hr
  exact free_rank laws (wide_free hM hl) hr
/-- The document's inverse. -/
def invE (M : List (List Nat)) : Int := if ¬ fits M ∨ M.length ≠ sizeC M then 21 else if (reduceN M).length < M.length then 24 else 0
def invV (M : List (List Nat)) : List (List Nat) := if invE M = 0 then (reduceTo (M.length + M.length) (wideN M M.length) M.length).map (List.drop M.length) else []
theorem idN_get (n k i : Nat) (h : i < k) : (idN n k)[i]? = some (vUnit n i) := by
  rw [idN, List.getElem?_map, List.getElem?_range h]; rfl
def trV (M : List (List Nat)) : List (List Nat) := if fits M then trN M M.length (sizeC M) else []
def idE (n : Int) : Int := if n < 0 ∨ 255 < n then 1 else 0
def idV (n : Int) : List (List Nat) := if n < 0 ∨ 255 < n then [] else idN n.toNat n.toNat
end Go.Proofs.Ytcafofffgmaepaa
