/- Contracts of the document's own answers of layer 7: rows, sums of bytes, what coefficients make of symbols. -/
import Derived.Test.YtcafofffgmaepaaSt
import Derived.Test.YtcafofffgmaepaaOwn
import Derived.Test.YtcafofffgmaepaaMulB
import Derived.Test.YtcafofffgmaepaaVecB
import Derived.Test.YtcafofffgmaepaaRowsMk
import Derived.Test.YtcafofffgmaepaaRegion
import Derived.Laws.Rows
import Derived.StillTailTactics
import Derived.Test.YtcafofffgmaepaaMat
import Derived.Test.YtcafofffgmaepaaEqual
import Derived.Test.YtcafofffgmaepaaFill
namespace Go.Proofs.Ytcafofffgmaepaa
open Go.RowKit
set_option linter.unusedVariables false
set_option linter.unusedSimpArgs false
theorem infoRowSize : (Try.prog.info? 56).map (·.size) = some 2 := by kernel_rfl
/-- What a sum of bytes has done: the first i places. -/
def partS (n : Nat) (xs ys : List Nat) (c i : Nat) : List Nat := tab n fun j => if j < i then xs.getD j 0 ^^^ mulN (ys.getD j 0) c else xs.getD j 0
theorem partS_zero {n : Nat} {xs : List Nat} (ys : List Nat) (c : Nat) (h : xs.length = n) : partS n xs ys c 0 = xs := by
  subst h
  exact (tab_congr fun j _ => by rw [if_neg (by omega)]).trans (tab_self xs)
theorem partS_all (n : Nat) (xs ys : List Nat) (c : Nat) : partS n xs ys c n = vAddS n xs ys c := tab_congr fun j hj => by rw [if_pos hj]
theorem partS_getD {n : Nat} (xs ys : List Nat) (c : Nat) {i : Nat} (hi : i < n) : (partS n xs ys c i).getD i 0 = xs.getD i 0 := by rw [partS, tab_getD, if_pos hi, if_neg (by omega)]
theorem partS_set {n : Nat} (xs ys : List Nat) (c : Nat) {i : Nat} (hi : i < n) : (partS n xs ys c i).set i (xs.getD i 0 ^^^ mulN (ys.getD i 0) c) = partS n xs ys c (i + 1) := by
  refine list_ext (by simp [partS, tab_length]) fun j hj => ?_
  rw [List.length_set, partS, tab_length] at hj
  have e2 : (partS n xs ys c (i + 1)).getD j 0 = if j < i + 1 then xs.getD j 0 ^^^ mulN (ys.getD j 0) c else xs.getD j 0 := by rw [partS, tab_getD, if_pos hj]
  rw [e2, List.getD_eq_getElem?_getD, List.getElem?_set]
  by_cases e : i = j
  · subst e
    rw [if_pos rfl, if_pos (by simp [partS, tab_length]; omega), if_pos (by omega)]; rfl
  · rw [if_neg e, ← List.getD_eq_getElem?_getD, partS, tab_getD, if_pos hj]
    by_cases h1 : j < i
    · rw [if_pos h1, if_pos (by omega)]
    · rw [if_neg h1, if_neg (by omega)]
set_option maxRecDepth 100000 in
set_option maxHeartbeats 1000000 in
theorem rplus_any (B B' n m ca cb c : Nat) (A A' : Option Addr) (xs ys : List Nat) (w : World) (h : Bytes w B A n xs) (h' : Bytes w B' A' m ys) (hB : B ≤ w.heap.size) (hB' : B' ≤ w.heap.size) (hn : n ≤ 1000000) (hm : n ≤ m) (hc : c < 256) :
    Calls Try.prog 98 #[.slice A n ca, .slice A' m cb, .int .u8 c] w (NewBytes w (vAddS n xs ys c)) := by
  have HH := Lib.hid (And.intro h h')
  clear h h'
  go_enter Try.func98, Try.ntmps98
  go_wp2_with fail
  refine (rown_any B n ca A xs _ HH.out.1 (by omega)).mono ?_
  rintro e w1 ⟨A1, n1, c1, rfl, o1, k1⟩
  obtain rfl : n = n1 := by rw [← o1.length, HH.out.1.length]
  have O1 := Lib.hid o1
  have K1 := Lib.hid k1
  have HL := Lib.hid (own_le' o1)
  clear o1 k1
  go_wp2_with fail
  go_loopw [8] (fun i wr => ∃ j : Nat, j ≤ n ∧ i = .int .i64 j ∧ Own wr w.heap.size 5 A1 n c1 (partS n xs ys c j) ∧ Keep w wr) (fun i _ => n - (intOf i).toNat)
  case atStart => exact ⟨0, by omega, rfl, by rw [partS_zero ys c HH.out.1.length]; exact O1.out, K1.out⟩
  case round =>
    obtain ⟨j, hj, rfl, ho, hk⟩ := hrel
    by_cases hlt : j < n
    · obtain ⟨g, rfl, hg, hgl⟩ := ho.block (by omega)
      have cx := ho.cell hlt
      rw [partS_getD xs ys c hlt] at cx
      have fx := ho.frozen j
      obtain ⟨b2, o2, rfl, hb2, cy⟩ := (HH.out.2.keep hB' hk).at_ (show j < m by omega)
      have hx := HH.out.1.all.getD j
      have hy := HH.out.2.all.getD j
      have hst := partS_set xs ys c hlt
      generalize xs.getD j 0 = x at *
      generalize ys.getD j 0 = y at *
      obtain ⟨p, hp⟩ : ∃ p, mulN y c = p := ⟨_, rfl⟩
      have hp2 : p < 256 := by rw [← hp]; exact mulN_lt _ hy
      rw [hp] at hst
      have hxor := u8_xor_nat x p hx hp2
      obtain ⟨v, hv⟩ : ∃ v, x ^^^ p = v := ⟨_, rfl⟩
      have hv2 : v < 256 := by rw [← hv]; exact xor_lt hx hp2
      rw [hv] at hst hxor
      have C0 : Hid (Calls Try.prog 115 #[.int .u8 y, .int .u8 c] wr.drew fun e w' => e = .returned (.int .u8 (p : Int)) ∧ w' = wr.drew) := (rmul_eq y c p hy hc hp _).mono fun e w' h => ⟨h.1, h.2.symm⟩
      have HST := Lib.hid hst
      have HV := Lib.hid (And.intro hv2 (ho.1.lt g rfl).1)
      have HO := Lib.hid ho
      have HK := Lib.hid hk
      have e1 : (0 : Int) ≤ (j : Int) := Int.natCast_nonneg _
      have e2 : (j : Int) < (n : Int) := by omega
      have e3 : (j : Int) < (m : Int) := by omega
      clear ho hk hst hp hv hv2
      go_wp2_with fail
      refine wp_region_still_tail (w := wr) 14 (by kernel_rfl) (by kernel_rfl) ?_
      simp only [List.take_succ_cons, List.take_zero, List.drop_succ_cons, List.drop_zero]
      change wpStill _ _ (World.drew wr) _ _ _
      iterate 11 still_step
      still_call C0.out
      iterate 2 still_step
      refine wpStill_nil ?_
      change wpList _ _ _ _ _ (World.drew wr)
      go_wp2_with fail
      go_roundw
      case rel => exact ⟨j + 1, by omega, by go_num, by rw [← HST.out]; exact ⟨(HO.out.stored HV.out.1).1, (HO.out.stored (i := j) HV.out.1).2⟩, HK.out.drew.setCell HV.out.2 _⟩
      case measure => simp [intOf]; omega
    · obtain rfl : j = n := by omega
      rw [partS_all] at ho
      go_wp2_with fail
      go_ret
      exact ⟨_, _, _, rfl, ho, hk⟩
theorem vComb_step (n k : Nat) (rows : List (List Nat)) (c : List Nat) : vAddS n (vComb n rows c k) (rows.getD k []) (c.getD k 0) = vComb n rows c (k + 1) := vComb_succ n k rows c
theorem rowsXs_at' {rs : List RowV} {k : Nat} {r : RowV} (h : rs[k]? = some r) : (rowsXs rs).getD k [] = r.xs := by
  simp [rowsXs, List.getD_eq_getElem?_getD, h]
set_option maxRecDepth 100000 in
set_option maxHeartbeats 1000000 in
/-- Coefficients times symbols, as many of each. -/
theorem rtimes_any (B g s ca cb : Nat) (A A' : Option Addr) (F : Nat → Prop) (cs : List Nat) (rs : List RowV) (w : World) (h : Bytes w B A g cs) (h' : RowsIn w F A' g rs) (hB : B ≤ w.heap.size) (hF : ∀ b, F b → b < w.heap.size) (hg : g ≤ 1000) (hs : s ≤ 100000) (hrn : ∀ r ∈ rs, r.n = s) :
    Calls Try.prog 63 #[.slice A g ca, .slice A' g cb, .int .i64 (s : Int)] w (NewBytes w (vComb s (rowsXs rs) cs g)) := by
  have HH := Lib.hid (And.intro h h')
  have HF := Lib.hid hF
  have HRN := Lib.hid hrn
  have mkb := fun w => run_make_bytes (P := Try.prog) Try.underlying22 info5 s (by omega) w
  clear h h' hF hrn
  go_enter Try.func63, Try.ntmps63
  go_wp2_with fail
  go_loopw [7, 8] (fun o i wr => ∃ (j : Nat) (A1 : Option Addr) (c1 : Nat), j ≤ g ∧ i = .int .i64 j ∧ o = .slice A1 s c1 ∧ Own wr w.heap.size 5 A1 s c1 (vComb s (rowsXs rs) cs j) ∧ Keep w wr) (fun _ i _ => g - (intOf i).toNat)
  case atStart => exact ⟨0, _, s, by omega, rfl, rfl, by rw [vComb_zero]; exact Own.made w 5 s (by omega), (Keep.refl w).alloc _ _⟩
  case round =>
    obtain ⟨j, A1, c1, hj, rfl, rfl, ho, hk⟩ := hrel
    by_cases hlt : j < g
    · obtain ⟨b1, o1, rfl, hb1, cc⟩ := (HH.out.1.keep hB hk).at_ hlt
      obtain ⟨b2, o2, r, rfl, hb2, hr, cr, hl⟩ := (HH.out.2.turned (Turned.of_keep (F := fun _ => False) hk) fun _ _ e => e).at_ hlt
      have hx := HH.out.1.all.getD j
      have hrn := HRN.out r (List.mem_of_getElem? hr)
      rw [hrn] at cr
      have HBY : Hid (Bytes wr wr.heap.size r.A s r.xs) := by
        have := hl.bytes (B := wr.heap.size) fun b hb => Nat.lt_of_lt_of_le (HF.out b hb) hk.size
        rw [hrn] at this; exact this
      have hst := vComb_step s j (rowsXs rs) cs
      rw [rowsXs_at' hr] at hst
      generalize cs.getD j 0 = x at *
      have HST := Lib.hid hst
      have HO := Lib.hid ho
      have HK := Lib.hid hk
      have e1 : (0 : Int) ≤ (j : Int) := Int.natCast_nonneg _
      have e2 : (j : Int) < (g : Int) := by omega
      clear ho hk hst hr hl hrn hb1 hb2
      go_wp2_with fail
      refine wp_region_still_tail (w := wr) 9 (by kernel_rfl) (by kernel_rfl) ?_
      simp only [List.take_succ_cons, List.take_zero, List.drop_succ_cons, List.drop_zero]
      change wpStill _ _ (World.drew wr) _ _ _
      iterate 9 still_step
      refine wpStill_nil ?_
      change wpList _ _ _ _ _ (World.drew wr)
      go_wp2_with fail
      refine (rplus_any _ _ s s c1 _ x A1 r.A _ r.xs _ HO.out.drew.bytes (HBY.out.keep (Nat.le_refl _) (Keep.drew (Keep.refl _))) (Nat.le_refl _) (Nat.le_refl _) (by omega) (Nat.le_refl _) hx).mono ?_
      rintro e w2 ⟨A2, n2, c2, rfl, o2', k2⟩
      obtain rfl : s = n2 := by rw [← o2'.length]; exact (tab_length _ _).symm
      have O2 := Lib.hid (o2'.lower (base' := w.heap.size) HK.out.size)
      have K2 := Lib.hid (HK.out.drew.trans k2)
      clear o2' k2
      go_wp2_with fail
      go_roundw
      case rel => exact ⟨j + 1, A2, c2, by omega, by go_num, rfl, by rw [← HST.out]; exact O2.out, K2.out⟩
      case measure => simp [intOf]; omega
    · obtain rfl : j = g := by omega
      go_wp2_with fail
      go_ret
      exact ⟨_, _, _, rfl, ho, hk⟩
end Go.Proofs.Ytcafofffgmaepaa
/- A basis: rows of coefficients and payload, side by side, reduced as they come. -/
namespace Go.Proofs.Ytcafofffgmaepaa
open Lin
/-- What the rows leave of one. -/
def leftB (nc : Nat) (B : List (List Nat)) (row : List Nat) : List Nat := clearTo nc B row B.length
/-- A row is put in, if it is new. -/
def insB (g s : Nat) (B : List (List Nat)) (row : List Nat) : List (List Nat) := if vLead g (leftB (g + s) B row) < 0 then B else insertN (g + s) B row
/-- A basis of g and s: reduced, each row with its lead among the coefficients. -/
structure Bas (g s : Nat) (B : List (List Nat)) : Prop where
  red : RedL (g + s) B
  inj : ∀ x : Nat → By, InSpan B.length (fn B) x → (∀ j, j < g → x j = 0) → x = fun _ => 0
theorem Bas.nil (g s : Nat) : Bas g s [] := ⟨redL_nil _, fun x h _ => by
  obtain ⟨c, rfl⟩ := h
  rfl⟩
theorem vLead_some {n : Nat} {xs : List Nat} (h : ¬ vLead n xs < 0) : ∃ L, vLeadTo xs n = some L ∧ vLead n xs = (L : Int) := by
  unfold vLead at h ⊢
  split at h
  · next i e => exact ⟨i, e, rfl⟩
  · omega
theorem vLead_none {n : Nat} {xs : List Nat} (h : vLead n xs < 0) : ∀ i, i < n → xs.getD i 0 = 0 := by
  refine (vLeadTo_none xs n).1 ?_
  unfold vLead at h
  split at h
  · omega
  · assumption
theorem vLead_neg {n : Nat} {xs : List Nat} (h : ∀ i, i < n → xs.getD i 0 = 0) : vLead n xs < 0 := by
  rw [vLead, (vLeadTo_none xs n).2 h]; decide
theorem vLead_at {n L : Nat} {xs : List Nat} (hL : L < n) (h0 : xs.getD L 0 ≠ 0) (hz : ∀ j, j < L → xs.getD j 0 = 0) : vLead n xs = (L : Int) := by
  rw [vLead, (vLeadTo_some xs n L).2 ⟨hL, h0, hz⟩]
theorem vLead_less {g nc : Nat} {xs : List Nat} (hg : g ≤ nc) (h : ¬ vLead g xs < 0) : vLead nc xs = vLead g xs := by
  obtain ⟨L, h1, h2⟩ := vLead_some h
  obtain ⟨a, b, c⟩ := (vLeadTo_some xs g L).1 h1
  rw [h2]; exact vLead_at (by omega) b c
theorem left_len {nc : Nat} {B : List (List Nat)} {row : List Nat} (h : row.length = nc) : (leftB nc B row).length = nc := clearTo_len nc B row h _
theorem left_all {nc : Nat} {B : List (List Nat)} {row : List Nat} (hB : RowsOk nc B) (h : AllB row) : AllB (leftB nc B row) := clearTo_all hB h _ (Nat.le_refl _)
/-- What is left, as rows over the field. -/
theorem left_vec {nc : Nat} {B : List (List Nat)} {row : List Nat} {l : Nat → Nat} (hB : RowsOk nc B) (hr : Red B.length (fn B) l) (hl : row.length = nc) (ha : AllB row) : vec (leftB nc B row) = fun j => vec row j + comb B.length (fn B) (fun i => vec row (l i)) j := by
  rw [leftB, vec_clearTo hB hr hl ha _ (Nat.le_refl _), clearSeq_eq laws hr _ (Nat.le_refl _)]
theorem left_nought {nc : Nat} {B : List (List Nat)} {row : List Nat} {l : Nat → Nat} (hB : RowsOk nc B) (hr : Red B.length (fn B) l) (hl : row.length = nc) (ha : AllB row) {i : Nat} (hi : i < B.length) : vec (leftB nc B row) (l i) = 0 := by
  rw [left_vec hB hr hl ha]; exact cleared laws hr _ hi
namespace Bas
variable {g s : Nat} {B : List (List Nat)}
theorem ok (h : Bas g s B) : RowsOk (g + s) B := h.red.1
/-- Each lead is that of a coefficient. -/
theorem leads (h : Bas g s B) : ∃ l, Red B.length (fn B) l ∧ ∀ i, i < B.length → l i < g := by
  obtain ⟨hok, l, hr⟩ := h.red
  refine ⟨l, hr, fun i hi => ?_⟩
  rcases Nat.lt_or_ge (l i) g with e | e
  · exact e
  · have := h.inj (fn B i) (InSpan.row laws (fn B) hi) fun j hj => hr.low i j hi (by omega)
    have h1 := hr.one i hi
    rw [this] at h1
    exact (laws.nought h1.symm).elim
theorem lead_at (h : Bas g s B) {l : Nat → Nat} (hr : Red B.length (fn B) l) {i : Nat} (hi : i < B.length) : vLead (g + s) (B.getD i []) = (l i : Int) := (red_lead h.ok hr hi).1
theorem length_le (h : Bas g s B) : B.length ≤ g := by
  obtain ⟨l, hr, hl⟩ := h.leads
  rcases Nat.eq_zero_or_pos B.length with e | e
  · omega
  · have := hr.lead_top hl e; omega
end Bas
theorem byte_zero {x : Nat} (hx : x < 256) (h : byte x = 0) : x = 0 := by
  have := congrArg By.v h
  rwa [byte_v hx] at this
theorem vec_zero_iff {xs : List Nat} (ha : AllB xs) (j : Nat) : vec xs j = 0 ↔ xs.getD j 0 = 0 :=
  ⟨fun h => byte_zero (ha.getD j) h, fun h => by show byte (xs.getD j 0) = 0; rw [h]; rfl⟩
theorem makes_one {row : List Nat} {b : Nat → By} (h : Makes [row] b) : ∃ c, b = fun j => c * vec row j := by
  obtain ⟨c, rfl⟩ := h
  refine ⟨c 0, funext fun j => ?_⟩
  show (0 : By) + c 0 * fn [row] 0 j = _
  rw [laws.add_comm, laws.add_zero]; rfl
/-- A row is put in: a basis again. -/
theorem insB_bas {g s : Nat} {B : List (List Nat)} {row : List Nat} (h : Bas g s B) (hl : row.length = g + s) (ha : AllB row) : Bas g s (insB g s B row) := by
  rw [insB]
  split
  · exact h
  · next hlead =>
    obtain ⟨hT, hS⟩ := insertN_red h.red hl ha
    obtain ⟨l, hr, hlt⟩ := h.leads
    obtain ⟨L, h1, h2⟩ := vLead_some hlead
    obtain ⟨hLg, hL0, hLz⟩ := (vLeadTo_some _ g L).1 h1
    refine ⟨hT, fun x hx hz => ?_⟩
    have hx2 : Makes (B ++ [row]) x := InSpan.trans laws hx hS.1
    obtain ⟨y, b, hy, hb, rfl⟩ := makes_append.1 hx2
    obtain ⟨c, rfl⟩ := makes_one hb
    have hv := left_vec h.ok hr hl ha
    have hn := fun i hi => left_nought h.ok hr hl ha (i := i) hi
    have hva := left_all (B := B) h.ok ha
    obtain ⟨v, hvv⟩ : ∃ v, leftB (g + s) B row = v := ⟨_, rfl⟩
    rw [hvv] at hv hn hva hL0 hLz
    have hrow : ∀ j, vec row j = vec v j + comb B.length (fn B) (fun i => vec row (l i)) j := fun j => by
      rw [hv]
      show _ = vec row j + _ + _
      rw [laws.add_assoc, laws.add_self, laws.add_zero]
    have hy2 : InSpan B.length (fn B) fun j => y j + c * comb B.length (fn B) (fun i => vec row (l i)) j := InSpan.add laws hy (InSpan.mul laws c ⟨_, rfl⟩)
    obtain ⟨y2, hy2e⟩ : ∃ y2, (fun j => y j + c * comb B.length (fn B) (fun i => vec row (l i)) j) = y2 := ⟨_, rfl⟩
    rw [hy2e] at hy2
    have e : ∀ j, y j + c * vec row j = y2 j + c * vec v j := fun j => by
      rw [hrow j, ← hy2e]
      show _ = y j + _ + _
      rw [laws.mul_add, laws.add_assoc]
      congr 1
      exact laws.add_comm _ _
    have hz2 : ∀ j, j < g → y2 j + c * vec v j = 0 := fun j hj => by rw [← e]; exact hz j hj
    have hy0 := hr.nought laws hy2 fun i hi => by
      have := hz2 (l i) (hlt i hi)
      rw [hn i hi, laws.mul_zero, laws.add_zero] at this; exact this
    have hc : c = 0 := by
      have h3 := hz2 L hLg
      rw [hy0, laws.zero_add, laws.mul_comm] at h3
      exact Laws.mul_eq_zero laws h3 fun e0 => hL0 ((vec_zero_iff hva L).1 e0)
    funext j
    show y j + c * vec row j = 0
    rw [e j, hy0, hc, laws.zero_mul, laws.add_zero]
/-- Is a row of these coefficients of the rows' span? -/
def inB (g s : Nat) (B : List (List Nat)) (row : List Nat) : Prop := vLead g (leftB (g + s) B row) < 0
instance (g s : Nat) (B : List (List Nat)) (row : List Nat) : Decidable (inB g s B row) := by unfold inB; infer_instance
/-- That hangs on the coefficients alone. -/
theorem inB_congr {g s : Nat} {B : List (List Nat)} {row row' : List Nat} (h : Bas g s B) (hl : row.length = g + s) (ha : AllB row) (hl' : row'.length = g + s) (ha' : AllB row') (he : ∀ j, j < g → row.getD j 0 = row'.getD j 0) : inB g s B row ↔ inB g s B row' := by
  obtain ⟨l, hr, hlt⟩ := h.leads
  have hv := left_vec h.ok hr hl ha
  have hv' := left_vec h.ok hr hl' ha'
  have e0 : ∀ j, j < g → vec row j = vec row' j := fun j hj => by show byte _ = byte _; rw [he j hj]
  have e1 : comb B.length (fn B) (fun i => vec row (l i)) = comb B.length (fn B) (fun i => vec row' (l i)) := funext fun j => sm_congr fun i hi => by
    show vec row (l i) * _ = vec row' (l i) * _
    rw [e0 _ (hlt i hi)]
  have e2 : ∀ j, j < g → (leftB (g + s) B row).getD j 0 = (leftB (g + s) B row').getD j 0 := fun j hj => by
    have : vec (leftB (g + s) B row) j = vec (leftB (g + s) B row') j := by rw [hv, hv', e1]; show _ + _ = _ + _; rw [e0 j hj]
    have := congrArg By.v this
    rwa [vec_v (left_all h.ok ha), vec_v (left_all h.ok ha')] at this
  constructor
  · exact fun hh => vLead_neg fun i hi => by rw [← e2 i hi]; exact vLead_none hh i hi
  · exact fun hh => vLead_neg fun i hi => by rw [e2 i hi]; exact vLead_none hh i hi
theorem insB_in {g s : Nat} {B : List (List Nat)} {row : List Nat} (h : inB g s B row) : insB g s B row = B := if_pos h
theorem insB_new {g s : Nat} {B : List (List Nat)} {row : List Nat} (h : ¬ inB g s B row) : insB g s B row = insertN (g + s) B row := if_neg h
theorem layTo_len (nc : Nat) (M : List (List Nat)) (u : List Nat) (L : Nat) : ∀ k, (layTo nc M u L k).1.length = k + (if (layTo nc M u L k).2 = true then 1 else 0)
  | 0 => rfl
  | k + 1 => by
    have ih := layTo_len nc M u L k
    rw [layTo]
    cases h2 : (layTo nc M u L k).2 with
    | true =>
      rw [h2, if_pos rfl] at ih
      simp only [Bool.not_true, Bool.false_and, if_neg (show ¬ (false = true) by decide), Bool.true_or, if_pos, List.length_append, ih, List.length_singleton]
    | false =>
      rw [h2, if_neg (show ¬ (false = true) by decide)] at ih
      by_cases h3 : (L : Int) < vLead nc (M.getD k [])
      · have e : decide ((L : Int) < vLead nc (M.getD k [])) = true := decide_eq_true h3
        simp only [e, Bool.not_false, Bool.and_self, if_pos, Bool.false_or, List.length_append, ih, List.length_singleton]
      · have e : decide ((L : Int) < vLead nc (M.getD k [])) = false := decide_eq_false h3
        simp only [e, Bool.and_false, if_neg (show ¬ (false = true) by decide), Bool.or_false, List.length_append, ih, List.length_singleton]
theorem insertN_len {nc : Nat} {M : List (List Nat)} {row : List Nat} (h : ¬ vLead nc (leftB nc M row) < 0) : (insertN nc M row).length = M.length + 1 := by
  have e : insertN nc M row = if (layTo nc M (vScale nc (leftB nc M row) (invN ((leftB nc M row).getD (vLead nc (leftB nc M row)).toNat 0))) (vLead nc (leftB nc M row)).toNat M.length).2 = true then (layTo nc M (vScale nc (leftB nc M row) (invN ((leftB nc M row).getD (vLead nc (leftB nc M row)).toNat 0))) (vLead nc (leftB nc M row)).toNat M.length).1 else (layTo nc M (vScale nc (leftB nc M row) (invN ((leftB nc M row).getD (vLead nc (leftB nc M row)).toNat 0))) (vLead nc (leftB nc M row)).toNat M.length).1 ++ [vScale nc (leftB nc M row) (invN ((leftB nc M row).getD (vLead nc (leftB nc M row)).toNat 0))] := by
    rw [insertN]; exact if_neg h
  rw [e]
  have hl := layTo_len nc M (vScale nc (leftB nc M row) (invN ((leftB nc M row).getD (vLead nc (leftB nc M row)).toNat 0))) (vLead nc (leftB nc M row)).toNat M.length
  split
  · next h1 => rw [hl, if_pos h1]
  · next h1 => rw [List.length_append, hl, if_neg h1]; rfl
theorem insB_len {g s : Nat} {B : List (List Nat)} {row : List Nat} : (insB g s B row).length = B.length + (if inB g s B row then 0 else 1) := by
  by_cases h : inB g s B row
  · rw [insB_in h, if_pos h]; rfl
  · rw [insB_new h, if_neg h]
    refine insertN_len fun h2 => h ?_
    have := vLead_none h2
    exact vLead_neg fun i hi => this i (by omega)
/-- What was put in is of the span now. -/
theorem inB_after {g s : Nat} {B : List (List Nat)} {row : List Nat} (h : Bas g s B) (hl : row.length = g + s) (ha : AllB row) : inB g s (insB g s B row) row := by
  by_cases hin : inB g s B row
  · rw [insB_in hin]; exact hin
  · have hb := insB_bas h hl ha
    obtain ⟨hT, hS⟩ := insertN_red h.red hl ha
    obtain ⟨l, hr, hlt⟩ := hb.leads
    rw [insB_new hin] at hb hr ⊢
    have hm : InSpan (insertN (g + s) B row).length (fn (insertN (g + s) B row)) (vec row) := by
      refine InSpan.trans laws ?_ hS.2
      have := InSpan.row laws (fn (B ++ [row])) (show B.length < (B ++ [row]).length by simp)
      rwa [show fn (B ++ [row]) B.length = vec row by rw [fn_append_row B row B.length (by omega), insM_at]] at this
    have hv := left_vec hb.ok hr hl ha
    have h0 : vec (leftB (g + s) (insertN (g + s) B row) row) = fun _ => 0 := by
      refine hr.nought laws ?_ fun i hi => left_nought hb.ok hr hl ha hi
      rw [hv]; exact InSpan.add laws hm ⟨_, rfl⟩
    exact vLead_neg fun i _ => (vec_zero_iff (left_all hb.ok ha) i).1 (by rw [h0])
end Go.Proofs.Ytcafofffgmaepaa
/- The landed code of layer 7: what a basis is in memory; small functions; comparing. -/
namespace Go.Proofs.Ytcafofffgmaepaa
open Go.RowKit
set_option linter.unusedVariables false
set_option linter.unusedSimpArgs false
section
variable {w w' : World} {F G : Nat → Prop} {b g s n c : Nat} {B : List (List Nat)} {A : Option Addr} {ps : List PairV}
end
section
variable {w : World} {F : Nat → Prop} {b g s : Nat} {B : List (List Nat)}
end
set_option maxRecDepth 100000 in
set_option maxHeartbeats 1000000 in
theorem bsamerow_any (p q : PairV) (w : World) (h1 : Bytes w w.heap.size p.a.A p.a.n p.a.xs) (h2 : Bytes w w.heap.size p.b.A p.b.n p.b.xs) (h3 : Bytes w w.heap.size q.a.A q.a.n q.a.xs) (h4 : Bytes w w.heap.size q.b.A q.b.n q.b.xs) :
    Calls Try.prog 83 #[p.agg, q.agg] w fun e w' => e = .returned (.bool (decide ((p.a.xs, p.b.xs) = (q.a.xs, q.b.xs)))) ∧ Keep w w' := by
  obtain ⟨⟨A1, n1, c1, x1⟩, ⟨A2, n2, c2, x2⟩⟩ := p
  obtain ⟨⟨A3, n3, c3, x3⟩, ⟨A4, n4, c4, x4⟩⟩ := q
  show Calls _ _ #[.agg #[.slice A1 n1 c1, .slice A2 n2 c2], .agg #[.slice A3 n3 c3, .slice A4 n4 c4]] _ _
  simp only [Prod.mk.injEq] at h1 h2 h3 h4 ⊢
  have hk : ∀ (v1 v2 : Array Value) (t1 t2 : TypeId), Keep w ((w.alloc (.cells v1 t1)).alloc (.cells v2 t2)) := fun v1 v2 t1 t2 => ((Keep.refl w).alloc _ _).alloc _ _
  have HK := Lib.hid hk
  have k1 : ∀ (v1 v2 : Array Value) (t1 t2 : TypeId), Bytes ((w.alloc (.cells v1 t1)).alloc (.cells v2 t2)) w.heap.size A1 n1 x1 := fun v1 v2 t1 t2 => h1.below (Below.mono (HK.out v1 v2 t1 t2) (Nat.le_refl _))
  have k2 : ∀ (v1 v2 : Array Value) (t1 t2 : TypeId), Bytes ((w.alloc (.cells v1 t1)).alloc (.cells v2 t2)) w.heap.size A2 n2 x2 := fun v1 v2 t1 t2 => h2.below (Below.mono (HK.out v1 v2 t1 t2) (Nat.le_refl _))
  have k3 : ∀ (v1 v2 : Array Value) (t1 t2 : TypeId), Bytes ((w.alloc (.cells v1 t1)).alloc (.cells v2 t2)) w.heap.size A3 n3 x3 := fun v1 v2 t1 t2 => h3.below (Below.mono (HK.out v1 v2 t1 t2) (Nat.le_refl _))
  have k4 : ∀ (v1 v2 : Array Value) (t1 t2 : TypeId), Bytes ((w.alloc (.cells v1 t1)).alloc (.cells v2 t2)) w.heap.size A4 n4 x4 := fun v1 v2 t1 t2 => h4.below (Below.mono (HK.out v1 v2 t1 t2) (Nat.le_refl _))
  have K1 := Lib.hid k1
  have K2 := Lib.hid k2
  have K3 := Lib.hid k3
  have K4 := Lib.hid k4
  clear h1 h2 h3 h4 hk k1 k2 k3 k4
  by_cases e1 : x1 = x3
  · have E1 := Lib.hid e1
    clear e1
    go_enter Try.func83, Try.ntmps83
    go_wp2_with fail
    refine (equal_any _ _ n1 n3 c1 c3 A1 A3 x1 x3 _ (K1.out _ _ _ _) (K3.out _ _ _ _)).mono ?_
    rw [decide_eq_true E1.out]
    rintro e w1 ⟨rfl, rfl⟩
    go_wp2_with fail
    refine (equal_any _ _ n2 n4 c2 c4 A2 A4 x2 x4 _ (K2.out _ _ _ _) (K4.out _ _ _ _)).mono ?_
    rintro e w1 ⟨rfl, rfl⟩
    go_wp2_with fail
    go_ret
    exact ⟨by simp [E1.out], HK.out _ _ _ _⟩
  · have E1 := Lib.hid e1
    clear e1
    go_enter Try.func83, Try.ntmps83
    go_wp2_with fail
    refine (equal_any _ _ n1 n3 c1 c3 A1 A3 x1 x3 _ (K1.out _ _ _ _) (K3.out _ _ _ _)).mono ?_
    rw [decide_eq_false E1.out]
    rintro e w1 ⟨rfl, rfl⟩
    go_wp2_with fail
    go_ret
    exact ⟨by simp [E1.out], HK.out _ _ _ _⟩
end Go.Proofs.Ytcafofffgmaepaa
/- The landed code of layer 7: two lists of rows compared. -/
namespace Go.Proofs.Ytcafofffgmaepaa
open Go.RowKit
set_option linter.unusedVariables false
set_option linter.unusedSimpArgs false
/-- What a list of rows tells. -/
def pairXs (ps : List PairV) : List (List Nat × List Nat) := ps.map fun p => (p.a.xs, p.b.xs)
theorem pairXs_len (ps : List PairV) : (pairXs ps).length = ps.length := List.length_map _
theorem pairXs_take {ps : List PairV} {k : Nat} {p : PairV} (h : ps[k]? = some p) : pairXs (ps.take (k + 1)) = pairXs (ps.take k) ++ [(p.a.xs, p.b.xs)] := by
  rw [List.take_add_one, h]; simp [pairXs]
theorem pairXs_ne {ps qs : List PairV} {k : Nat} {p q : PairV} (h : ps[k]? = some p) (h' : qs[k]? = some q) (hne : (p.a.xs, p.b.xs) ≠ (q.a.xs, q.b.xs)) : pairXs ps ≠ pairXs qs := fun e => hne (by
  have := congrArg (fun l => l[k]?) e
  simp only [pairXs, List.getElem?_map, h, h', Option.map_some, Option.some.injEq] at this
  exact this)
theorem StIn.lies {w : World} {F : Nat → Prop} {A : Option Addr} {n : Nat} {ps : List PairV} (h : StIn w F A n ps) (hF : ∀ b, F b → b < w.heap.size) {k : Nat} {p : PairV} (hp : ps[k]? = some p) : Bytes w w.heap.size p.a.A p.a.n p.a.xs ∧ Bytes w w.heap.size p.b.A p.b.n p.b.xs := by
  have := h.2.1 p (List.mem_of_getElem? hp)
  exact ⟨this.1.bytes hF, this.2.bytes hF⟩
set_option maxRecDepth 100000 in
set_option maxHeartbeats 2000000 in
theorem beqfunc_any (n m ca cb : Nat) (A A' : Option Addr) (F F' : Nat → Prop) (ps qs : List PairV) (w : World) (h : StIn w F A n ps) (h' : StIn w F' A' m qs) (hF : ∀ b, F b → b < w.heap.size) (hF' : ∀ b, F' b → b < w.heap.size) (hn : n ≤ 1000000) :
    Calls Try.prog 82 #[.slice A n ca, .slice A' m cb, .func (.func 83) #[] #[]] w fun e w' => e = .returned (.bool (decide (pairXs ps = pairXs qs))) ∧ Keep w w' := by
  have H := Lib.hid h
  have H' := Lib.hid h'
  have HF := Lib.hid (And.intro hF hF')
  by_cases hnm : n = m
  · subst hnm
    have b0 : ((n : Int) != (n : Int)) = false := by simp
    clear h h' hF hF'
    go_enter Try.func82, Try.ntmps82
    go_wp2_with fail
    go_loopw [17] (fun i wr => ∃ (j : Nat), j ≤ n ∧ i = .int .i64 j ∧ pairXs (ps.take j) = pairXs (qs.take j) ∧ Keep w wr) (fun i _ => n - (intOf i).toNat)
    case atStart => exact ⟨0, by omega, rfl, rfl, Keep.refl w⟩
    case round =>
      obtain ⟨j, hj, rfl, he, hk⟩ := hrel
      have HE := Lib.hid he
      have HK := Lib.hid hk
      clear he
      by_cases hlt : j < n
      · obtain ⟨b, off, p, rfl, hb, hr, hc, hc2, hl⟩ := (H.out.keep hk).at_ hlt
        obtain ⟨b', off', q, rfl, hb', hr', hc', hc2', hl'⟩ := (H'.out.keep hk).at_ hlt
        have HR := Lib.hid hr
        have HR' := Lib.hid hr'
        have hF1 : ∀ b, F b → b < wr.heap.size := fun b e => Nat.lt_of_lt_of_le (HF.out.1 b e) hk.size
        have hF1' : ∀ b, F' b → b < wr.heap.size := fun b e => Nat.lt_of_lt_of_le (HF.out.2 b e) hk.size
        have B1 := Lib.hid ((H.out.keep hk).lies hF1 hr)
        have B2 := Lib.hid ((H'.out.keep hk).lies hF1' hr')
        have l1 := hF1 b hb
        have l2 := hF1' b' hb'
        have e1 : (0 : Int) ≤ (j : Int) := Int.natCast_nonneg _
        have e2 : (j : Int) < (n : Int) := by omega
        have hkk : ∀ (v1 v2 : Array Value) (t1 t2 : TypeId), Keep wr ((wr.alloc (.cells v1 t1)).alloc (.cells v2 t2)) := fun v1 v2 t1 t2 => ((Keep.refl wr).alloc _ _).alloc _ _
        have KK := Lib.hid hkk
        have hc3 : ∀ (v1 : Array Value) (t1 : TypeId), (wr.alloc (.cells v1 t1)).cell? ⟨b', off' + j * 2, none⟩ = some (.slice q.a.A q.a.n q.a.c) := fun v1 t1 => (World.cell?_alloc_past _ _ _ l2).trans hc'
        have hc4 : ∀ (v1 : Array Value) (t1 : TypeId), (wr.alloc (.cells v1 t1)).cell? ⟨b', off' + j * 2 + 1, none⟩ = some (.slice q.b.A q.b.n q.b.c) := fun v1 t1 => (World.cell?_alloc_past _ _ _ l2).trans hc2'
        clear hr hr' hl hl' hb hb' hk hkk hF1 hF1' l1 hc' hc2' l2
        by_cases hx : (p.a.xs, p.b.xs) = (q.a.xs, q.b.xs)
        · have HX := Lib.hid hx
          clear hx
          go_wp2_with fail
          refine (bsamerow_any p q _ ((B1.out.1.below (Below.mono (KK.out _ _ _ _) (Nat.le_refl _))).mono (KK.out _ _ _ _).size) ((B1.out.2.below (Below.mono (KK.out _ _ _ _) (Nat.le_refl _))).mono (KK.out _ _ _ _).size) ((B2.out.1.below (Below.mono (KK.out _ _ _ _) (Nat.le_refl _))).mono (KK.out _ _ _ _).size) ((B2.out.2.below (Below.mono (KK.out _ _ _ _) (Nat.le_refl _))).mono (KK.out _ _ _ _).size)).mono ?_
          rw [decide_eq_true HX.out]
          rintro e w1 ⟨rfl, k1⟩
          have K1 : Hid (Keep w w1) := (HK.out.trans (KK.out _ _ _ _)).trans k1
          clear k1 KK
          go_wp2_with fail
          go_round
          case rel => exact ⟨j + 1, by omega, by go_num, by rw [pairXs_take HR.out, pairXs_take HR'.out, HE.out, HX.out], K1.out⟩
          case measure => simp [intOf]; omega
        · have HX := Lib.hid hx
          have HC : Hid (decide (pairXs ps = pairXs qs) = false) := by show _ = _; exact decide_eq_false (pairXs_ne HR.out HR'.out hx)
          clear hx
          go_wp2_with fail
          refine (bsamerow_any p q _ ((B1.out.1.below (Below.mono (KK.out _ _ _ _) (Nat.le_refl _))).mono (KK.out _ _ _ _).size) ((B1.out.2.below (Below.mono (KK.out _ _ _ _) (Nat.le_refl _))).mono (KK.out _ _ _ _).size) ((B2.out.1.below (Below.mono (KK.out _ _ _ _) (Nat.le_refl _))).mono (KK.out _ _ _ _).size) ((B2.out.2.below (Below.mono (KK.out _ _ _ _) (Nat.le_refl _))).mono (KK.out _ _ _ _).size)).mono ?_
          rw [decide_eq_false HX.out]
          rintro e w1 ⟨rfl, k1⟩
          have K1 : Hid (Keep w w1) := (HK.out.trans (KK.out _ _ _ _)).trans k1
          clear k1 KK
          go_wp2_with fail
          go_ret
          exact ⟨by rw [HC.out]; rfl, K1.out⟩
      · obtain rfl : j = n := by omega
        have HC : Hid (decide (pairXs ps = pairXs qs) = true) := by
          show _ = _
          have e := HE.out
          rw [List.take_of_length_le (by rw [H.out.1]; exact Nat.le_refl _), List.take_of_length_le (by rw [H'.out.1]; exact Nat.le_refl _)] at e
          exact decide_eq_true e
        clear hk
        go_wp2_with fail
        go_ret
        exact ⟨by rw [HC.out]; rfl, HK.out⟩
  · have HC : Hid (decide (pairXs ps = pairXs qs) = false) := by
      show _ = _
      exact decide_eq_false fun e => hnm (by rw [← h.1, ← h'.1]; have := congrArg List.length e; simpa [pairXs] using this)
    have b1 : ((n : Int) != (m : Int)) = true := by rw [bne_iff_ne]; omega
    clear h h' hnm hF hF'
    go_enter Try.func82, Try.ntmps82
    go_wp2_with fail
    go_ret
    exact ⟨by rw [HC.out]; rfl, Keep.refl w⟩
theorem bsame_any (n m ca cb : Nat) (A A' : Option Addr) (F F' : Nat → Prop) (ps qs : List PairV) (w : World) (h : StIn w F A n ps) (h' : StIn w F' A' m qs) (hF : ∀ b, F b → b < w.heap.size) (hF' : ∀ b, F' b → b < w.heap.size) (hn : n ≤ 1000000) :
    Calls Try.prog 40 #[.slice A n ca, .slice A' m cb] w fun e w' => e = .returned (.bool (decide (pairXs ps = pairXs qs))) ∧ Keep w w' := by
  go_enter Try.func40, Try.ntmps40
  go_wp2_with fail
  refine (beqfunc_any n m ca cb A A' F F' ps qs w h h' hF hF' hn).mono ?_
  rintro e w1 ⟨rfl, k⟩
  have K := Lib.hid k
  clear k
  go_wp2_with fail
  go_ret
  exact ⟨rfl, K.out⟩
end Go.Proofs.Ytcafofffgmaepaa
