/- Rows reduced by columns, as lists: a row found, divided, wiped out of the others; what is reached. -/
import Derived.Test.YtcjjhblgejkkeaaGreatMat
namespace Go.Proofs.YtcjjhblgejkkeaaGreat
open Lin
/-- n lists, each made of its place. -/
def ltab (n : Nat) (f : Nat → List Nat) : List (List Nat) := (List.range n).map f
theorem ltab_len (n : Nat) (f : Nat → List Nat) : (ltab n f).length = n := by simp [ltab]
theorem ltab_get (n : Nat) (f : Nat → List Nat) (i : Nat) (h : i < n) : (ltab n f)[i]? = some (f i) := by simp [ltab, h]
theorem ltab_at (n : Nat) (f : Nat → List Nat) (i : Nat) (h : i < n) : (ltab n f).getD i [] = f i := by rw [List.getD_eq_getElem?_getD, ltab_get n f i h]; rfl
theorem llist_ext {M N : List (List Nat)} (hl : M.length = N.length) (h : ∀ i, i < M.length → M.getD i [] = N.getD i []) : M = N := by
  apply List.ext_getElem hl
  intro i i1 i2
  have e := h i i1
  rw [List.getD_eq_getElem?_getD, List.getElem?_eq_getElem i1, List.getD_eq_getElem?_getD, List.getElem?_eq_getElem i2] at e
  exact e
theorem ltab_congr {n : Nat} {f g : Nat → List Nat} (h : ∀ i, i < n → f i = g i) : ltab n f = ltab n g :=
  llist_ext (by rw [ltab_len, ltab_len]) fun i hi => by rw [ltab_len] at hi; rw [ltab_at _ _ _ hi, ltab_at _ _ _ hi, h i hi]
theorem ltab_self (M : List (List Nat)) : ltab M.length (fun i => M.getD i []) = M := llist_ext (ltab_len _ _) fun i hi => by rw [ltab_len] at hi; rw [ltab_at _ _ _ hi]
theorem lset_at (M : List (List Nat)) (k i : Nat) (v : List Nat) (hk : k < M.length) : (M.set k v).getD i [] = if i = k then v else M.getD i [] := by
  rw [List.getD_eq_getElem?_getD, List.getElem?_set]
  by_cases h : k = i
  · subst h; simp [hk]
  · rw [if_neg h, if_neg (fun e => h e.symm), List.getD_eq_getElem?_getD]
theorem ltab_set (n : Nat) (f : Nat → List Nat) (k : Nat) (v : List Nat) (hk : k < n) : (ltab n f).set k v = ltab n fun i => if i = k then v else f i :=
  llist_ext (by simp [ltab_len]) fun i hi => by
    rw [List.length_set, ltab_len] at hi
    rw [lset_at _ _ _ _ (by rw [ltab_len]; exact hk), ltab_at _ _ _ hi, ltab_at _ _ _ hi]
/-- Two rows change places. -/
def swapL (M : List (List Nat)) (d f : Nat) : List (List Nat) := (M.set d (M.getD f [])).set f (M.getD d [])
theorem swapL_len (M : List (List Nat)) (d f : Nat) : (swapL M d f).length = M.length := by simp [swapL]
theorem swapL_at (M : List (List Nat)) (d f i : Nat) (hd : d < M.length) (hf : f < M.length) : (swapL M d f).getD i [] = if i = f then M.getD d [] else if i = d then M.getD f [] else M.getD i [] := by
  rw [swapL, lset_at _ _ _ _ (by simpa using hf), lset_at _ _ _ _ hd]
/-- A row divided by its number. -/
def divL (nc : Nat) (M : List (List Nat)) (d col : Nat) : List (List Nat) := M.set d (vScale nc (M.getD d []) (invN ((M.getD d []).getD col 0)))
theorem divL_len (nc : Nat) (M : List (List Nat)) (d col : Nat) : (divL nc M d col).length = M.length := by simp [divL]
/-- The rows from a to ahead of b, wiped at the column. -/
def wipeL (nc : Nat) (M : List (List Nat)) (d col a b : Nat) : List (List Nat) := ltab M.length fun k => if a ≤ k ∧ k < b then vAddS nc (M.getD k []) (M.getD d []) ((M.getD k []).getD col 0) else M.getD k []
theorem wipeL_len (nc : Nat) (M : List (List Nat)) (d col a b : Nat) : (wipeL nc M d col a b).length = M.length := ltab_len _ _
theorem wipeL_at (nc : Nat) (M : List (List Nat)) (d col a b k : Nat) (hk : k < M.length) : (wipeL nc M d col a b).getD k [] = if a ≤ k ∧ k < b then vAddS nc (M.getD k []) (M.getD d []) ((M.getD k []).getD col 0) else M.getD k [] := ltab_at _ _ _ hk
theorem wipeL_start (nc : Nat) (M : List (List Nat)) (d col a : Nat) : wipeL nc M d col a a = M := by
  rw [wipeL]
  exact (ltab_congr fun i _ => by rw [if_neg (by omega)]).trans (ltab_self M)
theorem wipeL_succ (nc : Nat) (M : List (List Nat)) (d col a b : Nat) (hab : a ≤ b) (hb : b < M.length) (hd : ¬ (a ≤ d ∧ d < b)) (hdl : d < M.length) :
    (wipeL nc M d col a b).set b (vAddS nc ((wipeL nc M d col a b).getD b []) ((wipeL nc M d col a b).getD d []) (((wipeL nc M d col a b).getD b []).getD col 0)) = wipeL nc M d col a (b + 1) := by
  rw [wipeL_at _ _ _ _ _ _ _ hb, if_neg (by omega), wipeL_at _ _ _ _ _ _ _ hdl, if_neg hd, wipeL, ltab_set _ _ _ _ hb, wipeL]
  exact ltab_congr fun i _ => by
    by_cases e : i = b
    · subst e; rw [if_pos rfl, if_pos (by omega)]
    · rw [if_neg e]
      by_cases e2 : a ≤ i ∧ i < b
      · rw [if_pos e2, if_pos (by omega)]
      · rw [if_neg e2, if_neg (by omega)]
/-- Nothing is added: the row stays. -/
theorem vAddS_nought (nc : Nat) (xs ys : List Nat) (h : xs.length = nc) : vAddS nc xs ys 0 = xs := by
  subst h
  rw [vAddS]
  exact (tab_congr fun i _ => by rw [mul_zero_right, Nat.xor_zero]).trans (tab_self xs)
/-- A row is taken: found, divided, wiped out of all others. -/
def takeL (nc : Nat) (M : List (List Nat)) (d f col : Nat) : List (List Nat) := wipeL nc (wipeL nc (divL nc (swapL M d f) d col) d col 0 d) d col (d + 1) M.length
theorem takeL_len (nc : Nat) (M : List (List Nat)) (d f col : Nat) : (takeL nc M d f col).length = M.length := by rw [takeL, wipeL_len, wipeL_len, divL_len, swapL_len]
theorem rowsOk_of {nc : Nat} {M : List (List Nat)} (h : ∀ i, i < M.length → (M.getD i []).length = nc ∧ AllB (M.getD i [])) : RowsOk nc M := fun r hr => by
  obtain ⟨i, hi, e⟩ := List.getElem_of_mem hr
  have := h i hi
  rw [List.getD_eq_getElem?_getD, List.getElem?_eq_getElem hi, Option.getD_some, e] at this
  exact this
theorem same_span_of {M N : List (List Nat)} (hl : M.length = N.length) {m : Nat} (hm : M.length = m) (h : Within m (fn M) m (fn N) ∧ Within m (fn N) m (fn M)) : SameSpan M N := by
  subst hm
  rw [SameSpan, ← hl]; exact h
theorem swapL_part {nc : Nat} {M : List (List Nat)} {d f col : Nat} {l : Nat → Nat} (hM : RowsOk nc M) (hp : Part M.length d col (fn M) l) (hd : d ≤ f) (hf : f < M.length) :
    RowsOk nc (swapL M d f) ∧ SameSpan (swapL M d f) M ∧ Part M.length d col (fn (swapL M d f)) l := by
  have hdl : d < M.length := by omega
  have hat := fun i => swapL_at M d f i hdl hf
  have hfn : ∀ i, fn (swapL M d f) i = if i = f then fn M d else if i = d then fn M f else fn M i := fun i => by
    rw [fn, hat]; split
    · rfl
    · split <;> rfl
  refine ⟨rowsOk_of fun i hi => ?_, same_span_of (swapL_len _ _ _) (swapL_len _ _ _) ⟨span_swap laws fun k hk => ?_, span_swap laws fun k hk => ?_⟩, hp.swap (fun i hi => ?_) fun k hk hkm => ?_⟩
  · rw [swapL_len] at hi
    rw [hat]; split
    · exact hM.at_ hdl
    · split
      · exact hM.at_ hf
      · exact hM.at_ hi
  · rw [hfn]; split
    · exact ⟨d, hdl, rfl⟩
    · split
      · exact ⟨f, hf, rfl⟩
      · exact ⟨k, hk, rfl⟩
  · by_cases e : k = f
    · refine ⟨d, hdl, ?_⟩
      rw [hfn]; split
      · next h => rw [e, h]
      · rw [if_pos rfl, e]
    · by_cases e2 : k = d
      · exact ⟨f, hf, by rw [hfn, if_pos rfl, e2]⟩
      · exact ⟨k, hk, by rw [hfn, if_neg e, if_neg e2]⟩
  · rw [hfn, if_neg (by omega), if_neg (by omega)]
  · rw [hfn]; split
    · exact ⟨d, Nat.le_refl _, hdl, rfl⟩
    · split
      · exact ⟨f, hd, hf, rfl⟩
      · exact ⟨k, hk, hkm, rfl⟩
theorem byte_inv {a : Nat} (ha : a < 256) (h0 : a ≠ 0) : byte (invN a) * byte a = 1 ∧ byte (invN a) ≠ 0 := by
  have h1 : byte (invN a) * byte a = 1 := by
    apply By.ext
    rw [mul_v, byte_v (invN_lt _), byte_v ha, mul_comm' _ _ (invN_lt _) ha, mul_inv _ ha (by omega)]; rfl
  refine ⟨h1, fun e => ?_⟩
  rw [e, laws.zero_mul] at h1
  cases h1
theorem divL_part {nc : Nat} {M : List (List Nat)} {d col : Nat} {l : Nat → Nat} (hM : RowsOk nc M) (hp : Part M.length d col (fn M) l) (hd : d < M.length) (h0 : (M.getD d []).getD col 0 ≠ 0) :
    RowsOk nc (divL nc M d col) ∧ SameSpan (divL nc M d col) M ∧ Part M.length d col (fn (divL nc M d col)) l ∧ fn (divL nc M d col) d col = 1 := by
  have hw := hM.at_ hd
  have hb := hw.2.getD col
  obtain ⟨i1, i2⟩ := byte_inv hb h0
  have hat : ∀ i, (divL nc M d col).getD i [] = if i = d then vScale nc (M.getD d []) (invN ((M.getD d []).getD col 0)) else M.getD i [] := fun i => lset_at _ _ _ _ hd
  have ho : ∀ i, i < M.length → i ≠ d → fn (divL nc M d col) i = fn M i := fun i _ hne => by rw [fn, hat, if_neg hne]; rfl
  have hs : ∀ j, fn (divL nc M d col) d j = byte (invN ((M.getD d []).getD col 0)) * fn M d j := fun j => by
    rw [fn, hat, if_pos rfl, vec_vScale hw.1 hw.2 (invN_lt _)]; rfl
  refine ⟨rowsOk_of fun i hi => ?_, same_span_of (divL_len _ _ _ _) (divL_len _ _ _ _) (span_scale laws hd i2 ho hs), hp.scale laws hd ho hs, ?_⟩
  · rw [divL_len] at hi
    rw [hat]; split
    · exact ⟨tab_length _ _, vScale_all hw.2⟩
    · exact hM.at_ hi
  · rw [hs]; exact i1
theorem takeL_at {nc : Nat} {M : List (List Nat)} {d f col k : Nat} (hd : d < M.length) (hk : k < M.length) :
    (takeL nc M d f col).getD k [] = if k = d then (divL nc (swapL M d f) d col).getD d [] else vAddS nc ((divL nc (swapL M d f) d col).getD k []) ((divL nc (swapL M d f) d col).getD d []) (((divL nc (swapL M d f) d col).getD k []).getD col 0) := by
  obtain ⟨D, hD⟩ : ∃ D, divL nc (swapL M d f) d col = D := ⟨_, rfl⟩
  have hDl : D.length = M.length := by rw [← hD, divL_len, swapL_len]
  rw [takeL, hD]
  have hd' : d < D.length := by omega
  have hk' : k < D.length := by omega
  rw [wipeL_at _ _ _ _ _ _ _ (by rw [wipeL_len]; exact hk'), wipeL_at _ _ _ _ _ _ _ hk', wipeL_at _ _ _ _ _ _ _ hd', if_neg (show ¬ (0 ≤ d ∧ d < d) by omega)]
  by_cases e : k = d
  · subst e; rw [if_neg (by omega), if_neg (by omega), if_pos rfl]
  · rw [if_neg e]
    by_cases e2 : k < d
    · rw [if_neg (by omega), if_pos (by omega)]
    · rw [if_pos (by omega), if_neg (by omega)]
/-- ONE ROW MORE IS DONE. -/
theorem takeL_part {nc : Nat} {M : List (List Nat)} {d f col : Nat} {l : Nat → Nat} (hM : RowsOk nc M) (hp : Part M.length d col (fn M) l) (hd : d ≤ f) (hf : f < M.length) (h0 : (M.getD f []).getD col 0 ≠ 0) :
    RowsOk nc (takeL nc M d f col) ∧ SameSpan (takeL nc M d f col) M ∧ Part M.length (d + 1) (col + 1) (fn (takeL nc M d f col)) (fun i => if i = d then col else l i) := by
  have hdl : d < M.length := by omega
  obtain ⟨s1, s2, s3⟩ := swapL_part hM hp hd hf
  have hsl := swapL_len M d f
  have h0' : ((swapL M d f).getD d []).getD col 0 ≠ 0 := by
    rw [swapL_at M d f d hdl hf]; split
    · next h => rw [← h] at h0; exact h0
    · rw [if_pos rfl]; exact h0
  have hat := fun k hk => takeL_at (nc := nc) (f := f) (col := col) (k := k) hdl hk
  rw [← hsl] at s3
  obtain ⟨d1, d2, d3, d4⟩ := divL_part s1 s3 (by rw [hsl]; exact hdl) h0'
  have hDl : (divL nc (swapL M d f) d col).length = M.length := by rw [divL_len, hsl]
  rw [hsl] at d3
  have d2' := d2.trans s2
  generalize divL nc (swapL M d f) d col = D at hat d1 d2' d3 d4 hDl
  have hwd := d1.at_ (show d < D.length by omega)
  have hp1 : fn (takeL nc M d f col) d = fn D d := by rw [fn, hat d hdl, if_pos rfl]; rfl
  have hp2 : ∀ k, k < M.length → k ≠ d → ∀ j, fn (takeL nc M d f col) k j = fn D k j + fn D k col * fn D d j := fun k hk hne j => by
    have hwk := d1.at_ (show k < D.length by omega)
    rw [fn, hat k hk, if_neg hne, vec_vAddS hwk.1 hwd.1 hwk.2 hwd.2 (hwk.2.getD col)]; rfl
  refine ⟨rowsOk_of fun i hi => ?_, (same_span_of ((takeL_len _ _ _ _ _).trans hDl.symm) (takeL_len _ _ _ _ _) (span_clear laws hdl hp1 (fun k => fn D k col) hp2)).trans d2', Part.clear laws d3 hdl d4 hp1 hp2⟩
  rw [takeL_len] at hi
  rw [hat i hi]; split
  · exact hwd
  · exact ⟨tab_length _ _, vAddS_all (d1.at_ (by omega)).2 hwd.2⟩
/-- What is reached: the rows that are done are the reduced form. -/
theorem part_reduced {nc : Nat} {M T : List (List Nat)} {d col : Nat} {l : Nat → Nat} (hM : RowsOk nc M) (hT : RowsOk nc T) (hl : T.length = M.length) (hs : SameSpan T M) (hp : Part T.length d col (fn T) l) (hc : nc ≤ col ∨ d = T.length) :
    T.take d = reduceTo nc M M.length := by
  have hd := hp.le
  have hlen : (T.take d).length = d := by rw [List.length_take]; omega
  have hfn : ∀ i, i < d → fn (T.take d) i = fn T i := fun i hi => by rw [fn, fn, List.getD_eq_getElem?_getD, List.getElem?_take, if_pos hi, ← List.getD_eq_getElem?_getD]
  have hdone := hp.done laws hT.wide hc
  have r1 : RedL nc (T.take d) := ⟨fun r hr => hT r (List.mem_of_mem_take hr), l, by rw [hlen]; exact red_congr hp.red (fun i hi => (hfn i hi).symm) fun _ _ => rfl⟩
  have e1 := within_congr laws (r := d) hfn
  have e2 := within_congr laws (r := d) fun i hi => (hfn i hi).symm
  have s1 : SameSpan (T.take d) T := by
    rw [SameSpan, hlen]
    exact ⟨e1.trans laws hdone.2, hdone.1.trans laws e2⟩
  have r2 := reduceTo_red hM M.length (Nat.le_refl _)
  refine red_unique r1 r2.1 ((s1.trans hs).trans ?_)
  have := r2.2.symm
  rwa [List.take_length] at this
end Go.Proofs.YtcjjhblgejkkeaaGreat
/- Rows with units behind them, reduced by their first columns: what that tells of the rows themselves. -/
namespace Go.Proofs.YtcjjhblgejkkeaaGreat
open Lin
theorem span_cut {r s n : Nat} {R S R' S' : Nat → Nat → By} (h : Within r R s S) (hR : ∀ i, i < r → ∀ j, R' i j = if j < n then R i j else 0) (hS : ∀ i, i < s → ∀ j, S' i j = if j < n then S i j else 0) : Within r R' s S' := fun i hi => by
  obtain ⟨c, hc⟩ := h i hi
  refine ⟨c, funext fun j => ?_⟩
  rw [hR i hi j, hc]
  show _ = sm s fun k => c k * S' k j
  by_cases hj : j < n
  · rw [if_pos hj]
    exact sm_congr fun k hk => by rw [hS k hk j, if_pos hj]
  · rw [if_neg hj]
    exact (sm_zero laws s fun k hk => by rw [hS k hk j, if_neg hj, laws.mul_zero]).symm
theorem vec_take {xs : List Nat} (n j : Nat) : vec (xs.take n) j = if j < n then vec xs j else 0 := by
  by_cases h : j < n
  · rw [if_pos h, vec, vec, List.getD_eq_getElem?_getD, List.getElem?_take, if_pos h, ← List.getD_eq_getElem?_getD]
  · rw [if_neg h, vec, List.getD_eq_getElem?_getD, List.getElem?_take, if_neg h]; rfl
theorem map_getD {M : List (List Nat)} (f : List Nat → List Nat) {i : Nat} (h : i < M.length) : (M.map f).getD i [] = f (M.getD i []) := by
  rw [List.getD_eq_getElem?_getD, List.getElem?_map, List.getElem?_eq_getElem h, List.getD_eq_getElem?_getD, List.getElem?_eq_getElem h]; rfl
/-- The rank of the rows themselves: how many rows are done. -/
theorem cut_rank {n d : Nat} {M T : List (List Nat)} {l : Nat → Nat} (hM : RowsOk n M) (hl : M.length = n) (hT : RowsOk (n + n) T) (hlT : T.length = n) (hs : SameSpan T (wideN M n)) (hp : Part n d n (fn T) l) : (reduceTo n M n).length = d := by
  have hfn : ∀ i, i < n → ∀ j, fn (T.map (List.take n)) i j = if j < n then fn T i j else 0 := fun i hi j => by rw [fn, map_getD _ (by omega), vec_take]; rfl
  have hfm : ∀ i, i < n → ∀ j, fn M i j = if j < n then fn (wideN M n) i j else 0 := fun i hi j => by
    rw [fn, fn, wideN_at M n i hi]
    have hw := hM.at_ (show i < M.length by omega)
    obtain ⟨x, hx⟩ : ∃ x, M.getD i [] = x := ⟨_, rfl⟩
    rw [hx] at hw ⊢
    by_cases hj : j < n
    · rw [if_pos hj, vec, vec, List.getD_eq_getElem?_getD, List.getD_eq_getElem?_getD, List.getElem?_append_left (by omega)]
    · rw [if_neg hj]; exact vec_wide hw.1 j (by omega)
  have hlc : (T.map (List.take n)).length = n := by rw [List.length_map, hlT]
  have hok : RowsOk n (T.map (List.take n)) := fun x hx => by
    obtain ⟨y, hy, rfl⟩ := List.mem_map.1 hx
    have := hT y hy
    exact ⟨by rw [List.length_take, this.1]; omega, this.2.take n⟩
  have hsp : SameSpan (T.map (List.take n)) M := by
    have h1 := hs.1
    have h2 := hs.2
    rw [hlT, wideN_len] at h1 h2
    rw [SameSpan, hlc, hl]
    exact ⟨span_cut h1 hfn hfm, span_cut h2 hfm hfn⟩
  have hpc : Part n d n (fn (T.map (List.take n))) l := ⟨hp.le, hp.inc, hp.lt, fun i hi => by
    have := hp.le
    rw [hfn i (by omega), if_pos (hp.lt i hi)]; exact hp.one i hi, fun i k hi hk hne => by
    rw [hfn k hk, if_pos (hp.lt i hi)]; exact hp.zero i k hi hk hne, fun i j hi hj => by
    have := hp.le
    have := hp.lt i hi
    rw [hfn i (by omega), if_pos (by omega)]; exact hp.low i j hi hj, fun k j hk hm hj => by
    rw [hfn k hm, if_pos hj]; exact hp.rest k j hk hm hj⟩
  have hpc' : Part (T.map (List.take n)).length d n (fn (T.map (List.take n))) l := by rw [hlc]; exact hpc
  have := part_reduced hM hok (hlc.trans hl.symm) hsp hpc' (Or.inl (Nat.le_refl n))
  rw [hl] at this
  rw [← this, List.length_take, hlc]
  have := hp.le
  omega
theorem reduceN_fits {M : List (List Nat)} (h : fits M) : reduceN M = reduceTo (sizeC M) M M.length := if_pos h
theorem inv_cut {n : Nat} {M T : List (List Nat)} (hM : RowsOk n M) (hl : M.length = n) (hf : fits M) (hc : sizeC M = n) (hT : RowsOk (n + n) T) (hlT : T.length = n) (hs : SameSpan T (wideN M n)) {d col : Nat} {l : Nat → Nat} (hp : Part n d col (fn T) l) (hcol : col = n ∨ d = n) (hle : col ≤ n) :
    (d < n → invE M = 24 ∧ invV M = []) ∧ (d = n → invE M = 0 ∧ invV M = T.map (List.drop n)) := by
  have hrk : (reduceN M).length = d := by
    rw [reduceN_fits hf, hc, hl]
    by_cases e : col = n
    · subst e; exact cut_rank hM hl hT hlT hs hp
    · obtain rfl : d = n := by omega
      refine cut_rank hM hl hT hlT hs (l := l) ⟨hp.le, hp.inc, fun i hi => Nat.lt_of_lt_of_le (hp.lt i hi) hle, hp.one, hp.zero, hp.low, fun k j hk hm hj => by omega⟩
  have hne : ¬ (¬ fits M ∨ M.length ≠ sizeC M) := fun e => by
    rcases e with e | e
    · exact e hf
    · exact e (by omega)
  refine ⟨fun hd => ?_, fun hd => ?_⟩
  · have E : invE M = 24 := by rw [invE, if_neg hne, if_pos (by rw [hrk, hl]; exact hd)]
    exact ⟨E, by rw [invV, if_neg (by rw [E]; decide)]⟩
  · have E : invE M = 0 := by rw [invE, if_neg hne, if_neg (by rw [hrk, hl]; omega)]
    refine ⟨E, ?_⟩
    rw [invV, if_pos E, hl]
    have hwo := wideN_ok hM hl
    have hp' : Part T.length d col (fn T) l := by rw [hlT]; exact hp
    have := part_reduced hwo hT (by rw [hlT, wideN_len]) hs hp' (Or.inr (by rw [hlT]; exact hd))
    rw [wideN_len, List.take_of_length_le (by rw [hlT]; omega)] at this
    rw [← this]
end Go.Proofs.YtcjjhblgejkkeaaGreat
