/- What layer 6's answers are to one another: products, transposes, ranks, inverses (plain). -/
import Derived.Test.YtcmjglmagkjdoaaMatDefs
namespace Go.Proofs.Ytcmjglmagkjdoaa.Lin
variable {B : Type} [Add B] [Mul B] [Zero B] [One B]
theorem comb_congr {B : Type} [Add B] [Mul B] [Zero B] {n : Nat} {M N : Nat → Nat → B} (c : Nat → B) (h : ∀ i, i < n → M i = N i) : comb n M c = comb n N c := funext fun _ => sm_congr fun i hi => by rw [h i hi]
theorem comb_coef {B : Type} [Add B] [Mul B] [Zero B] {n : Nat} {M : Nat → Nat → B} {c d : Nat → B} (h : ∀ i, i < n → c i = d i) : comb n M c = comb n M d := funext fun _ => sm_congr fun i hi => by rw [h i hi]
theorem hasRank_congr (K : Laws B) {r p : Nat} {M N : Nat → Nat → B} (h : ∀ i, i < r → M i = N i) (k : HasRank r M p) : HasRank r N p := by
  obtain ⟨R, l, h1, h2, h3⟩ := k
  exact ⟨R, l, h1, h2.trans K (within_congr K h), (within_congr K fun i hi => (h i hi).symm).trans K h3⟩
/-- Full rank: the rows are free. -/
theorem free_of_rank [DecidableEq B] (K : Laws B) {n : Nat} {M : Nat → Nat → B} (h : HasRank n M n) : Free n M := fun c hc i0 hi0 => by
  apply Classical.byContradiction
  intro hne
  obtain ⟨a, ha⟩ := K.inv _ hne
  obtain ⟨m, rfl⟩ : ∃ m, n = m + 1 := ⟨n - 1, by omega⟩
  have hrow : InSpan m (fun k => M (skip i0 k)) (M i0) := ⟨fun k => a * c (skip i0 k), funext fun j => by
    have h0 := hc j
    rw [comb, sm_skip K m i0 (by omega)] at h0
    have h1 := K.eq_of_add h0
    show M i0 j = sm m fun k => a * c (skip i0 k) * M (skip i0 k) j
    have e : sm m (fun k => a * c (skip i0 k) * M (skip i0 k) j) = a * sm m fun k => c (skip i0 k) * M (skip i0 k) j := by
      rw [← sm_mul K]; exact sm_congr fun k _ => K.mul_assoc _ _ _
    rw [e, ← h1, ← K.mul_assoc, ha, K.one_mul]⟩
  have hw : Within (m + 1) M m fun k => M (skip i0 k) := fun i hi => by
    by_cases e : i = i0
    · rw [e]; exact hrow
    · obtain ⟨k, hk, hkm⟩ : ∃ k, skip i0 k = i ∧ k < m := by
        rcases Nat.lt_or_ge i i0 with h1 | h1
        · exact ⟨i, if_pos h1, by omega⟩
        · exact ⟨i - 1, by rw [skip, if_neg (by omega)]; omega, by omega⟩
      rw [← hk]
      exact InSpan.row K (fun k => M (skip i0 k)) hkm
  have := rank_le K hw h
  omega
theorem free_units (K : Laws B) (n : Nat) : Free n (unitM : Nat → Nat → B) := fun c hc i hi => by
  have h := hc i
  have e : comb n unitM c i = c i := by
    show sm n (fun k => c k * if i = k then 1 else 0) = c i
    rw [sm_one K hi fun k _ hne => by rw [if_neg (fun e => hne e.symm), K.mul_zero], if_pos rfl, K.mul_one]
  rw [← e]; exact h
end Go.Proofs.Ytcmjglmagkjdoaa.Lin
namespace Go.Proofs.Ytcmjglmagkjdoaa
open Lin
/-- A matrix of r rows and c columns. -/
def Sz (r c : Nat) (M : List (List Nat)) : Prop := M.length = r ∧ RowsOk c M
namespace Sz
variable {r c n m : Nat} {M N O : List (List Nat)}
theorem fits (h : Sz r c M) : Go.Proofs.Ytcmjglmagkjdoaa.fits M := fun x hx => by
  cases M with
  | nil => simp at hx
  | cons y M => rw [List.headD_cons, (h.2 x hx).1, (h.2 y (by simp)).1]
theorem sizeC (h : Sz r c M) (hr : 1 ≤ r) : sizeC M = c := by
  rw [Go.Proofs.Ytcmjglmagkjdoaa.sizeC, if_pos h.fits]
  cases M with
  | nil => have := h.1; simp at this; omega
  | cons y M => rw [List.headD_cons, (h.2 y (by simp)).1]
theorem sizeR (h : Sz r c M) : sizeR M = r := by rw [Go.Proofs.Ytcmjglmagkjdoaa.sizeR, if_pos h.fits, h.1]
theorem sizeE (h : Sz r c M) : sizeE M = 0 := by rw [Go.Proofs.Ytcmjglmagkjdoaa.sizeE, if_pos h.fits]
theorem at_ (h : Sz r c M) {i : Nat} (hi : i < r) : (M.getD i []).length = c ∧ AllB (M.getD i []) := h.2.at_ (by rw [h.1]; exact hi)
theorem wide (h : Sz r c M) : ∀ i, i < r → Wide c (fn M i) := fun i hi => h.2.wide i (by rw [h.1]; exact hi)
theorem ext (h : Sz r c M) (k : Sz r c N) (e : ∀ i, i < r → fn M i = fn N i) : M = N := by
  refine List.ext_getElem (h.1.trans k.1.symm) fun i h1 h2 => ?_
  have hi : i < r := by rw [← h.1]; exact h1
  have := vec_inj ((h.at_ hi).1.trans (k.at_ hi).1.symm) (h.at_ hi).2 (k.at_ hi).2 (e i hi)
  rwa [List.getD_eq_getElem?_getD, List.getElem?_eq_getElem h1, List.getD_eq_getElem?_getD, List.getElem?_eq_getElem h2] at this
end Sz
theorem sm_v (n : Nat) (f : Nat → By) : (sm n f).v = sumX (fun i => (f i).v) n := by
  induction n with
  | zero => rfl
  | succ n ih => rw [sumX, ← ih]; rfl
theorem dotN_lt {x : List Nat} {N : List (List Nat)} {n : Nat} (hx : AllB x) (j : Nat) : dotN x N j n < 256 := sumX_lt _ _ fun i _ => mulN_lt _ (hx.getD i)
theorem rowN_all {x : List Nat} {N : List (List Nat)} {n c : Nat} (hx : AllB x) : AllB (rowN x N n c) := fun y hy => by
  obtain ⟨j, _, rfl⟩ := List.mem_map.1 hy
  exact dotN_lt hx j
theorem vec_rowN {x : List Nat} {N : List (List Nat)} {n c : Nat} (hx : AllB x) (h : Sz n c N) : vec (rowN x N n c) = comb n (fn N) (vec x) := by
  funext j
  by_cases hj : j < c
  · apply By.ext
    rw [vec_v (rowN_all hx), rowN, tab_getD, if_pos hj, comb, sm_v]
    refine sumX_congr fun i hi => ?_
    rw [mul_v, vec_v hx]
    show _ = mulN (x.getD i 0) (vec (N.getD i []) j).v
    rw [vec_v (h.at_ hi).2]
  · rw [vec_wide (n := c) (by rw [rowN, tab_length]) j (by omega)]
    exact (sm_zero laws n fun i hi => by rw [h.wide i hi j (by omega), laws.mul_zero]).symm
section
variable {r n c m : Nat} {M N O : List (List Nat)}
theorem prod_sz (h : Sz r n M) (c : Nat) (N : List (List Nat)) : Sz r c (prodN M N n c r) := ⟨by rw [prodN, List.length_map, List.length_take, h.1, Nat.min_self], fun x hx => by
  obtain ⟨y, hy, rfl⟩ := List.mem_map.1 hx
  exact ⟨by rw [rowN, tab_length], rowN_all (h.2 y (List.mem_of_mem_take hy)).2⟩⟩
theorem fn_prod (h : Sz r n M) (k : Sz n c N) : ∀ i, i < r → fn (prodN M N n c r) i = mulM n (fn M) (fn N) i := fun i hi => by
  have hl : i < M.length := by rw [h.1]; exact hi
  have e : (prodN M N n c r).getD i [] = rowN (M.getD i []) N n c := by
    rw [prodN, List.take_of_length_le (by rw [h.1]; exact Nat.le_refl _), List.getD_eq_getElem?_getD, List.getElem?_map, List.getElem?_eq_getElem hl, List.getD_eq_getElem?_getD, List.getElem?_eq_getElem hl]; rfl
  rw [fn, e, vec_rowN (h.at_ hi).2 k]; rfl
theorem mulV_eq (h : Sz r n M) (k : Sz n c N) (hr : 1 ≤ r) (hn : 1 ≤ n) : mulV M N = prodN M N n c r ∧ mulE M N = 0 := by
  have hR : mulR M N := ⟨h.fits, k.fits, by rw [h.sizeC hr, k.sizeR]⟩
  exact ⟨by rw [mulV, if_pos hR, h.sizeC hr, k.sizeC hn, h.1], by rw [mulE, if_pos hR]⟩
theorem prod_assoc (h : Sz r n M) (k : Sz n m N) (l : Sz m c O) : prodN (prodN M N n m r) O m c r = prodN M (prodN N O m c n) n c r := by
  refine (prod_sz (prod_sz h m N) c O).ext (prod_sz h c _) fun i hi => ?_
  rw [fn_prod (prod_sz h m N) l i hi, fn_prod h (prod_sz k c O) i hi]
  show comb m (fn O) (fn (prodN M N n m r) i) = comb n (fn (prodN N O m c n)) (fn M i)
  rw [fn_prod h k i hi, comb_congr (fn M i) (fn_prod k l)]
  exact congrFun (Lin.mul_assoc' laws n m (fn M) (fn N) (fn O)) i
theorem id_sz (n : Nat) : Sz n n (idN n n) := ⟨by simp [idN], fun x hx => by
  obtain ⟨i, _, rfl⟩ := List.mem_map.1 hx
  exact ⟨by rw [vUnit, tab_length], vUnit_all n i⟩⟩
theorem vec_unit {n i : Nat} (hi : i < n) : vec (vUnit n i) = unitM i := funext fun j => by
  apply By.ext
  rw [vec_v (vUnit_all n i), vUnit, tab_getD]
  show _ = (if j = i then (1 : By) else 0).v
  by_cases e : j = i
  · subst e; rw [if_pos hi, if_pos rfl, if_pos rfl]; rfl
  · rw [if_neg e, if_neg e, ite_self]; rfl
theorem fn_id {n i : Nat} (hi : i < n) : fn (idN n n) i = unitM i := by
  rw [fn, List.getD_eq_getElem?_getD, idN_get n n i hi]
  exact vec_unit hi
theorem prod_id (h : Sz r n M) : prodN M (idN n n) n n r = M :=
  (prod_sz h n _).ext h fun i hi => by
    rw [fn_prod h (id_sz n) i hi]
    show comb n (fn (idN n n)) (fn M i) = fn M i
    rw [comb_congr (fn M i) fun k hk => fn_id hk]
    exact mul_unit laws (h.wide i hi)
theorem id_prod (k : Sz n c N) : prodN (idN n n) N n c n = N :=
  (prod_sz (id_sz n) c N).ext k fun i hi => by
    rw [fn_prod (id_sz n) k i hi]
    show comb n (fn N) (fn (idN n n) i) = fn N i
    rw [fn_id hi]
    exact unit_mul laws hi (fn N)
theorem colN_ok (h : Sz r c M) (k : Nat) : (colN M k r).length = r ∧ AllB (colN M k r) := ⟨by rw [colN, tab_length], fun x hx => by
  obtain ⟨i, hi, rfl⟩ := List.mem_map.1 hx
  exact (h.at_ (List.mem_range.1 hi)).2.getD k⟩
theorem tr_sz (h : Sz r c M) : Sz c r (trN M r c) := ⟨by simp [trN], fun x hx => by
  obtain ⟨k, _, rfl⟩ := List.mem_map.1 hx
  exact colN_ok h k⟩
theorem fn_tr (h : Sz r c M) : ∀ k, k < c → fn (trN M r c) k = trM r (fn M) k := fun k hk => funext fun i => by
  have e : (trN M r c).getD k [] = colN M k r := by rw [trN, List.getD_eq_getElem?_getD, List.getElem?_map, List.getElem?_range hk]; rfl
  show vec ((trN M r c).getD k []) i = if i < r then fn M i k else 0
  rw [e]
  apply By.ext
  rw [vec_v (colN_ok h k).2, colN, tab_getD]
  by_cases hi : i < r
  · rw [if_pos hi, if_pos hi]; exact (vec_v (h.at_ hi).2 k).symm
  · rw [if_neg hi, if_neg hi]; rfl
theorem tr_tr (h : Sz r c M) : trN (trN M r c) c r = M :=
  (tr_sz (tr_sz h)).ext h fun i hi => by
    rw [fn_tr (tr_sz h) i hi]
    funext j
    show (if j < c then fn (trN M r c) j i else 0) = fn M i j
    by_cases hj : j < c
    · rw [if_pos hj, fn_tr h j hj]
      show (if i < r then fn M i j else 0) = fn M i j
      rw [if_pos hi]
    · rw [if_neg hj, h.wide i hi j (by omega)]
theorem tr_prod (h : Sz r n M) (k : Sz n c N) : prodN (trN N n c) (trN M r n) n r c = trN (prodN M N n c r) r c :=
  (prod_sz (tr_sz k) r _).ext (tr_sz (prod_sz h c N)) fun a ha => by
    rw [fn_prod (tr_sz k) (tr_sz h) a ha, fn_tr (prod_sz h c N) a ha]
    funext i
    show sm n (fun b => fn (trN N n c) a b * fn (trN M r n) b i) = if i < r then fn (prodN M N n c r) i a else 0
    have e : sm n (fun b => fn (trN N n c) a b * fn (trN M r n) b i) = sm n fun b => fn N b a * if i < r then fn M i b else 0 := sm_congr fun b hb => by
      rw [fn_tr k a ha, fn_tr h b hb]
      show (if b < n then fn N b a else 0) * (if i < r then fn M i b else 0) = _
      rw [if_pos hb]
    rw [e]
    by_cases hi : i < r
    · rw [if_pos hi, fn_prod h k i hi]
      exact sm_congr fun b _ => by rw [if_pos hi, laws.mul_comm]
    · rw [if_neg hi]
      exact sm_zero laws n fun b _ => by rw [if_neg hi, laws.mul_zero]
/-- The reduced matrix: reduced, the same span. -/
theorem red_of (h : Sz r c M) : RedL c (reduceN M) ∧ SameSpan (reduceN M) M := by
  rcases Nat.eq_zero_or_pos r with h0 | hr
  · obtain rfl : M = [] := List.eq_nil_of_length_eq_zero (h.1.trans h0)
    have e : reduceN [] = [] := by rw [reduceN, if_pos h.fits]; rfl
    rw [e]
    exact ⟨redL_nil c, SameSpan.refl []⟩
  · rw [reduceN, if_pos h.fits, h.sizeC hr]
    have := reduceTo_red h.2 M.length (Nat.le_refl _)
    rwa [List.take_length] at this
/-- The rank. -/
def rk (M : List (List Nat)) : Nat := (reduceN M).length
theorem rk_has (h : Sz r c M) : HasRank r (fn M) (rk M) := by
  have := rank_of (red_of h).1 (red_of h).2
  rwa [h.1] at this
theorem rk_le (h : Sz r c M) : rk M ≤ r ∧ rk M ≤ c := ⟨rank_le_rows laws (rk_has h), redL_length (red_of h).1⟩
theorem rk_prod (h : Sz r n M) (k : Sz n c N) : rk (prodN M N n c r) ≤ rk M ∧ rk (prodN M N n c r) ≤ rk N := by
  have hp := hasRank_congr laws (fn_prod h k) (rk_has (prod_sz h c N))
  exact ⟨rank_mul_left laws hp (rk_has h), rank_mul_right laws hp (rk_has k)⟩
theorem rk_tr (h : Sz r c M) : rk (trN M r c) = rk M :=
  (rank_tr laws h.wide (rk_has h) (hasRank_congr laws (fn_tr h) (rk_has (tr_sz h)))).symm
theorem rk_id (n : Nat) : rk (idN n n) = n := by
  have h := hasRank_congr laws (fun i hi => fn_id hi) (rk_has (id_sz n))
  exact free_rank laws (free_units laws n) h
theorem reduce_same {s : Nat} (h : Sz r c M) (k : Sz s c N) (e : SameSpan M N) : reduceN M = reduceN N :=
  red_unique (red_of h).1 (red_of k).1 (((red_of h).2.trans e).trans (red_of k).2.symm)
end
section
variable {n : Nat} {M N V A : List (List Nat)}
theorem fn_wide (h : Sz n n M) : ∀ k, k < n → fn (wideN M n) k = pairV n (fn M k) (unitM k) := fun k hk => funext fun j => by
  have hw := h.at_ hk
  show vec ((wideN M n).getD k []) j = _
  rw [wideN_at M n k hk]
  rcases Nat.lt_or_ge j n with hj | hj
  · rw [pair_left hj]
    show byte ((M.getD k [] ++ vUnit n k).getD j 0) = byte ((M.getD k []).getD j 0)
    rw [List.getD_eq_getElem?_getD, List.getElem?_append_left (by rw [hw.1]; exact hj), ← List.getD_eq_getElem?_getD]
  · obtain ⟨i, rfl⟩ : ∃ i, j = n + i := ⟨j - n, by omega⟩
    rw [pair_right, ← vec_unit hk]
    show byte ((M.getD k [] ++ vUnit n k).getD (n + i) 0) = byte ((vUnit n k).getD i 0)
    rw [List.getD_eq_getElem?_getD, List.getElem?_append_right (by rw [hw.1]; omega), hw.1, Nat.add_sub_cancel_left, ← List.getD_eq_getElem?_getD]
theorem inv_eq (h : Sz n n M) (hn : 1 ≤ n) (hr : rk M = n) : invE M = 0 ∧ invV M = (reduceTo (n + n) (wideN M n) n).map (List.drop n) := by
  have e : invE M = 0 := by
    rw [invE, if_neg (by rw [h.sizeC hn, h.1]; exact fun e => e.elim (fun e => e h.fits) fun e => e rfl), if_neg (by have := h.1; unfold rk at hr; omega)]
  exact ⟨e, by rw [invV, if_pos e, h.1]⟩
/-- From the left. -/
theorem inv_left (h : Sz n n M) (hn : 1 ≤ n) (hr : rk M = n) : Sz n n (invV M) ∧ prodN (invV M) M n n n = idN n n := by
  rw [(inv_eq h hn hr).2]
  obtain ⟨R, hR⟩ : ∃ R, reduceTo (n + n) (wideN M n) n = R := ⟨_, rfl⟩
  have hred := reduceTo_red (wideN_ok h.2 h.1) n (by rw [wideN_len]; exact Nat.le_refl _)
  rw [List.take_of_length_le (by rw [wideN_len]; exact Nat.le_refl _), hR] at hred
  have hl : R.length = n := by rw [← hR]; exact wide_full h.2 h.1
  rw [hR]
  obtain ⟨⟨hok, l, hRed⟩, hs⟩ := hred
  rw [hl] at hRed
  have hw : Within n (fn R) n (fn (wideN M n)) := by have := hs.1; rwa [hl, wideN_len] at this
  have hC : ∃ C : Nat → Nat → By, ∀ i, i < n → fn R i = pairV n (comb n (fn M) (C i)) (comb n unitM (C i)) := by
    refine ⟨fun i => if hi : i < n then Classical.choose (hw i hi) else fun _ => 0, fun i hi => ?_⟩
    simp only [dif_pos hi]
    rw [← comb_pair, ← comb_congr _ (fn_wide h)]
    exact Classical.choose_spec (hw i hi)
  obtain ⟨C, hC⟩ := hC
  have hfree : Free n (fn M) := free_of_rank laws (by have := rk_has h; rwa [hr] at this)
  have hwl : ∀ i, i < n → Wide n (comb n (fn M) (C i)) := fun i _ => InSpan.wide laws ⟨C i, rfl⟩ h.wide
  have hln : ∀ i, i < n → l i < n := fun i hi => by
    rcases Nat.lt_or_ge (l i) n with h1 | h1
    · exact h1
    · exfalso
      have hz : ∀ j, comb n (fn M) (C i) j = 0 := fun j => by
        rcases Nat.lt_or_ge j n with hj | hj
        · have := hRed.low i j hi (by omega)
          rw [hC i hi, pair_left hj] at this
          exact this
        · exact hwl i hi j hj
      have hc := hfree (C i) hz
      have h1' := hRed.one i hi
      obtain ⟨a, ha⟩ : ∃ a, l i = n + a := ⟨l i - n, by omega⟩
      rw [hC i hi, ha, pair_right] at h1'
      have : comb n unitM (C i) a = 0 := sm_zero laws n fun k hk => by rw [hc k hk, laws.zero_mul]
      rw [this] at h1'
      exact laws.nought h1'.symm
  have hli : ∀ i, i < n → l i = i := fun i hi => by
    have e1 := hRed.lead_le hi
    have e2 := hRed.lead_top hln hi
    omega
  have hunit : ∀ i, i < n → comb n (fn M) (C i) = unitM i := fun i hi => funext fun j => by
    show _ = if j = i then 1 else 0
    rcases Nat.lt_or_ge j n with hj | hj
    · have e : fn R i j = comb n (fn M) (C i) j := by rw [hC i hi, pair_left hj]
      rw [← e]
      by_cases h1 : j = i
      · rw [if_pos h1, h1]
        have := hRed.one i hi
        rwa [hli i hi] at this
      · rw [if_neg h1]
        have := hRed.zero j i hj hi (fun e => h1 e.symm)
        rwa [hli j hj] at this
    · rw [hwl i hi j hj, if_neg (by omega)]
  have hV : Sz n n (R.map (List.drop n)) := ⟨by rw [List.length_map, hl], fun x hx => by
    obtain ⟨y, hy, rfl⟩ := List.mem_map.1 hx
    exact ⟨by rw [List.length_drop, (hok y hy).1]; omega, fun z hz => (hok y hy).2 z (List.mem_of_mem_drop hz)⟩⟩
  have hfV : ∀ i, i < n → fn (R.map (List.drop n)) i = comb n unitM (C i) := fun i hi => funext fun j => by
    have e : (R.map (List.drop n)).getD i [] = (R.getD i []).drop n := by
      rw [List.getD_eq_getElem?_getD, List.getElem?_map, List.getElem?_eq_getElem (by rw [hl]; exact hi), List.getD_eq_getElem?_getD, List.getElem?_eq_getElem (by rw [hl]; exact hi)]; rfl
    have e2 : comb n unitM (C i) j = fn R i (n + j) := by rw [hC i hi, pair_right]
    rw [e2, fn, e]
    show byte (((R.getD i []).drop n).getD j 0) = byte ((R.getD i []).getD (n + j) 0)
    rw [List.getD_eq_getElem?_getD, List.getElem?_drop, ← List.getD_eq_getElem?_getD]
  refine ⟨hV, (prod_sz hV n M).ext (id_sz n) fun i hi => ?_⟩
  rw [fn_prod hV h i hi, fn_id hi]
  show comb n (fn M) (fn (R.map (List.drop n)) i) = unitM i
  rw [hfV i hi, comb_comb laws, comb_congr (M := mulM n unitM (fn M)) (N := fn M) (C i) fun k hk => unit_mul laws hk (fn M)]
  exact hunit i hi
theorem full_of_left (h : Sz n n M) (k : Sz n n N) (e : prodN N M n n n = idN n n) : rk N = n ∧ rk M = n := by
  have hp := rk_prod k h
  rw [e, rk_id] at hp
  have h1 := (rk_le k).1
  have h2 := (rk_le h).1
  omega
/-- From the right. -/
theorem inv_right (h : Sz n n M) (hn : 1 ≤ n) (hr : rk M = n) : prodN M (invV M) n n n = idN n n := by
  obtain ⟨hV, e⟩ := inv_left h hn hr
  have hrV := (full_of_left h hV e).1
  obtain ⟨hU, e2⟩ := inv_left hV hn hrV
  have : prodN (invV (invV M)) (idN n n) n n n = M := by
    rw [← e, ← prod_assoc hU hV h, e2, id_prod h]
  rw [prod_id hU] at this
  rw [this] at e2
  exact e2
/-- Just one. -/
theorem inv_only (h : Sz n n M) (k : Sz n n A) (hn : 1 ≤ n) (e : prodN A M n n n = idN n n) : invV M = A := by
  have hr := (full_of_left h k e).2
  have hV := (inv_left h hn hr).1
  have : prodN (prodN A M n n n) (invV M) n n n = A := by rw [prod_assoc k h hV, inv_right h hn hr, prod_id k]
  rw [e, id_prod hV] at this
  exact this
theorem inv_inv (h : Sz n n M) (hn : 1 ≤ n) (hr : rk M = n) : rk (invV M) = n ∧ invV (invV M) = M := by
  obtain ⟨hV, e⟩ := inv_left h hn hr
  exact ⟨(full_of_left h hV e).1, inv_only hV h hn (inv_right h hn hr)⟩
theorem inv_prod (h : Sz n n M) (k : Sz n n N) (hn : 1 ≤ n) : (rk (prodN M N n n n) = n ↔ rk M = n ∧ rk N = n) ∧ (rk M = n → rk N = n → invV (prodN M N n n n) = prodN (invV N) (invV M) n n n) := by
  have key : rk M = n → rk N = n → prodN (prodN (invV N) (invV M) n n n) (prodN M N n n n) n n n = idN n n := fun h1 h2 => by
    obtain ⟨hV, e⟩ := inv_left h hn h1
    obtain ⟨hU, e2⟩ := inv_left k hn h2
    rw [prod_assoc hU hV (prod_sz h n N), ← prod_assoc hV h k, e, id_prod k, e2]
  refine ⟨⟨fun e => ?_, fun e => ?_⟩, fun h1 h2 => ?_⟩
  · have hp := rk_prod h k
    have h1 := (rk_le h).1
    have h2 := (rk_le k).1
    omega
  · exact (full_of_left (prod_sz h n N) (prod_sz (inv_left k hn e.2).1 n _) (key e.1 e.2)).2
  · exact inv_only (prod_sz h n N) (prod_sz (inv_left k hn h2).1 n _) hn (key h1 h2)
theorem inv_none (h : Sz n n M) (hn : 1 ≤ n) (hr : rk M ≠ n) : invE M = 24 ∧ invV M = [] := by
  have e : invE M = 24 := by
    rw [invE, if_neg (by rw [h.sizeC hn, h.1]; exact fun e => e.elim (fun e => e h.fits) fun e => e rfl), if_pos (by have h1 := (rk_le h).1; have h2 := h.1; unfold rk at hr h1; omega)]
  exact ⟨e, by rw [invV, e]; rfl⟩
end
end Go.Proofs.Ytcmjglmagkjdoaa
