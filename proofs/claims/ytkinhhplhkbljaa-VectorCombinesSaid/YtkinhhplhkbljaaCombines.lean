/- The walk of VectorCombines. -/
import Derived.Test.YtkinhhplhkbljaaSums
import Derived.Test.YtkinhhplhkbljaaCuts
namespace Go.Proofs.Ytkinhhplhkbljaa
open Go.RowKit
theorem min60 (a n : Nat) (h : min (a : Int) 60 = (n : Int)) (w : World) :
    (Builtin.min_ #[3, 3] 3 #[.int .i64 a, .int .i64 60]).run Try.prog w = .ok (.int .i64 n) w := by
  rw [run_min_int2]
  congr 2
  split <;> omega
/-- A combination of any rows and numbers. -/
def combAll (rs : List RowV) (C : List Nat) : List Nat := match rs with
  | [] => []
  | r :: t => if (r :: t).length = C.length then combOf r.n (r :: t) C else []
def combAllE (rs : List RowV) (C : List Nat) : Int := match rs with
  | [] => 1
  | r :: t => if (r :: t).length = C.length then combErr r.n (r :: t) else 21
section
variable (B B' n ca m cb : Nat) (A A' : Option Addr) (rs : List RowV) (cs : List Nat) (w : World) (h : RowsAt w B A n rs) (h' : Bytes w B' A' m cs) (hB : B ≤ w.heap.size) (hB' : B' ≤ w.heap.size) (hn : n ≤ 140737488351232)
include h h' hB hB' hn
theorem vcomb_all : Calls Try.prog 23 #[.slice A n ca, .slice A' m cb] w (NewPair w (combAll rs cs) (combAllE rs cs)) := by
  have hl := h.1
  have hc := h'.1
  cases rs with
  | nil =>
    obtain rfl : n = 0 := by simpa using hl.symm
    exact vcomb_none ca m cb A A' w
  | cons r t =>
    have h0 : n ≠ 0 := by rw [← hl]; simp
    by_cases e : n = m
    · subst e
      rw [combAll, combAllE, if_pos (by rw [hl, hc]), if_pos (by rw [hl, hc])]
      exact vcomb_any B B' n ca cb A A' (r :: t) cs w h h' hB hB' h0 hn r rfl
    · rw [combAll, combAllE, if_neg (by rw [hl, hc]; exact e), if_neg (by rw [hl, hc]; exact e)]
      exact vcomb_apart n ca m cb A A' w h0 e
theorem rcomb_all : Calls Try.prog 24 #[.slice A n ca, .slice A' m cb] w (NewPair w (combAll rs cs) (combAllE rs cs)) := by
  have hl := h.1
  have hc := h'.1
  cases rs with
  | nil =>
    obtain rfl : n = 0 := by simpa using hl.symm
    exact rcomb_none ca m cb A A' w
  | cons r t =>
    have h0 : n ≠ 0 := by rw [← hl]; simp
    by_cases e : n = m
    · subst e
      rw [combAll, combAllE, if_pos (by rw [hl, hc]), if_pos (by rw [hl, hc])]
      exact rcomb_any B B' n ca cb A A' (r :: t) cs w h h' hB hB' h0 hn r rfl
    · rw [combAll, combAllE, if_neg (by rw [hl, hc]; exact e), if_neg (by rw [hl, hc]; exact e)]
      exact rcomb_apart n ca m cb A A' w h0 e
end
/-- What of a row a combination looks at. -/
def RowV.shape (r : RowV) : Nat × List Nat := (r.n, r.xs)
theorem rowsOf_shape {rs rs' : List RowV} (h : rs.map RowV.shape = rs'.map RowV.shape) : rowsOf rs = rowsOf rs' := by
  have e := congrArg (List.map Prod.snd) h
  rw [List.map_map, List.map_map] at e
  exact e
theorem fits_shape {rs rs' : List RowV} (h : rs.map RowV.shape = rs'.map RowV.shape) (n : Nat) : (∀ r ∈ rs, r.n = n) → ∀ r ∈ rs', r.n = n := by
  have e := congrArg (List.map Prod.fst) h
  rw [List.map_map, List.map_map] at e
  intro hr r hm
  have h1 : r.n ∈ rs'.map (Prod.fst ∘ RowV.shape) := List.mem_map.2 ⟨r, hm, rfl⟩
  rw [← e] at h1
  obtain ⟨r', h2, h3⟩ := List.mem_map.1 h1
  rw [← h3]; exact hr r' h2
theorem comb_shape {rs rs' : List RowV} (h : rs.map RowV.shape = rs'.map RowV.shape) (C : List Nat) : combAll rs C = combAll rs' C ∧ combAllE rs C = combAllE rs' C := by
  have hl : rs.length = rs'.length := by simpa using congrArg List.length h
  cases rs with
  | nil =>
    cases rs' with
    | nil => exact ⟨rfl, rfl⟩
    | cons r t => simp at hl
  | cons r t =>
    cases rs' with
    | nil => simp at hl
    | cons r' t' =>
      have hn : r.n = r'.n := by
        have e := congrArg (fun l => (l.head?.map Prod.fst)) h
        simpa [RowV.shape] using e
      by_cases e : (r :: t).length = C.length
      · rw [combAll, combAll, combAllE, combAllE, if_pos e, if_pos (hl ▸ e), if_pos e, if_pos (hl ▸ e), hn]
        by_cases f : ∀ q ∈ r :: t, q.n = r'.n
        · have g := fits_shape h _ f
          rw [combOf, combOf, combErr, combErr, if_pos f, if_pos g, if_pos f, if_pos g, rowsOf_shape h, hl]
          exact ⟨rfl, rfl⟩
        · have g : ¬ ∀ q ∈ r' :: t', q.n = r'.n := fun g => f (fits_shape h.symm _ g)
          rw [combOf, combOf, combErr, combErr, if_neg f, if_neg g, if_neg f, if_neg g]
          exact ⟨rfl, rfl⟩
      · rw [combAll, combAll, combAllE, combAllE, if_neg e, if_neg (hl ▸ e), if_neg e, if_neg (hl ▸ e)]
        exact ⟨rfl, rfl⟩
/-- A unit, or none. -/
def unitOf (n i : Int) : List Nat := if n < 0 ∨ 70000 < n ∨ i < 0 ∨ n ≤ i then [] else vUnit n.toNat i.toNat
def unitErr (n i : Int) : Int := if n < 0 ∨ 70000 < n ∨ i < 0 ∨ n ≤ i then 1 else 0
theorem vunit_all (n i : Int) (w : World) : Calls Try.prog 25 #[.int .i64 n, .int .i64 i] w (NewPair w (unitOf n i) (unitErr n i)) := by
  by_cases h : n < 0 ∨ 70000 < n ∨ i < 0 ∨ n ≤ i
  · rw [unitOf, unitErr, if_pos h, if_pos h]; exact vunit_out n i h w
  · rw [unitOf, unitErr, if_neg h, if_neg h]
    obtain ⟨a, rfl⟩ := Int.eq_ofNat_of_zero_le (show 0 ≤ n by omega)
    obtain ⟨b, rfl⟩ := Int.eq_ofNat_of_zero_le (show 0 ≤ i by omega)
    exact vunit_in a b (by omega) (by omega) w
theorem runit_all (n i : Int) (w : World) : Calls Try.prog 26 #[.int .i64 n, .int .i64 i] w (NewPair w (unitOf n i) (unitErr n i)) := by
  by_cases h : n < 0 ∨ 70000 < n ∨ i < 0 ∨ n ≤ i
  · rw [unitOf, unitErr, if_pos h, if_pos h]; exact runit_out n i h w
  · rw [unitOf, unitErr, if_neg h, if_neg h]
    obtain ⟨a, rfl⟩ := Int.eq_ofNat_of_zero_le (show 0 ≤ n by omega)
    obtain ⟨b, rfl⟩ := Int.eq_ofNat_of_zero_le (show 0 ≤ i by omega)
    exact runit_in a b (by omega) (by omega) w
/-- Copies of rows, in new memory. -/
structure CopyRows (w wr : World) (rs : List RowV) (Au : Option Addr) (j cu : Nat) (ms : List RowV) : Prop where
  rows : OwnRows wr w.heap.size 22 Au j cu ms
  each : ∀ (i : Nat) (r : RowV), ms[i]? = some r → ∃ r' : RowV, rs[i]? = some r' ∧ r.n = r'.n ∧ r.xs = r'.xs ∧ Own wr w.heap.size 5 r.A r.n r.c r.xs
theorem CopyRows.keep {w wr w' : World} {rs ms : List RowV} {j cu : Nat} {Au : Option Addr} (h : CopyRows w wr rs Au j cu ms) (kp : Keep wr w') : CopyRows w w' rs Au j cu ms :=
  ⟨h.rows.keep kp, fun i r hr => by obtain ⟨r', a, b, c, d⟩ := h.each i r hr; exact ⟨r', a, b, c, d.keep kp⟩⟩
theorem CopyRows.next {w w3 w5 : World} {o : Obj} {j cu A2 c2 : _} {Au P : Option Addr} {base cp n : Nat} {xs : List Nat} {rs ms : List RowV} {r' : RowV} (h : CopyRows w w3 rs Au j cu ms) (hp : Own w3 base 5 P n cp xs) (hb : w.heap.size ≤ base)
    (hr : rs[j]? = some r') (hn : n = r'.n) (hx : xs = r'.xs) (h2 : OwnRows w5 w.heap.size 22 A2 (j + 1) c2 (ms ++ [⟨P, n, cp, xs⟩])) (hg : (w3.alloc o).grownBy w5 (Value.slice Au j cu).ownBlock) : CopyRows w w5 rs A2 (j + 1) c2 (ms ++ [⟨P, n, cp, xs⟩]) := by
  refine ⟨h2, fun i r hi => ?_⟩
  have hl := h.rows.length
  have push : ∀ {A : Option Addr} {m c : Nat} {xs : List Nat} {b : Nat}, Own w3 b 5 A m c xs → Own w5 b 5 A m c xs := fun ho => (ho.alloc o).grown hg (blocks_apart (ho.alloc o) (h.rows.alloc o) (by decide))
  rcases Nat.lt_or_ge i ms.length with hj | hj
  · rw [List.getElem?_append_left hj] at hi
    obtain ⟨q, e1, e2, e3, e4⟩ := h.each i r hi
    exact ⟨q, e1, e2, e3, push e4⟩
  · rw [List.getElem?_append_right hj] at hi
    obtain ⟨hz, rfl⟩ : i - ms.length = 0 ∧ r = ⟨P, n, cp, xs⟩ := by
      cases hz : i - ms.length with
      | zero => rw [hz] at hi; simp at hi; exact ⟨rfl, hi.symm⟩
      | succ q => rw [hz] at hi; simp at hi
    obtain rfl : i = j := by omega
    exact ⟨r', hr, hn, hx, push (hp.lower hb)⟩
theorem CopyRows.shape {w wr : World} {rs ms : List RowV} {j cu : Nat} {Au : Option Addr} (h : CopyRows w wr rs Au j cu ms) (_hj : j ≤ rs.length) : ms.map RowV.shape = (rs.take j).map RowV.shape := by
  have hl := h.rows.length
  apply List.ext_getElem?
  intro i
  rw [List.getElem?_map, List.getElem?_map, List.getElem?_take]
  rcases Nat.lt_or_ge i j with hi | hi
  · have h1 := List.getElem?_eq_getElem (show i < ms.length by omega)
    obtain ⟨q, e1, e2, e3, _⟩ := h.each i _ h1
    rw [h1, if_pos hi, e1]
    simp [RowV.shape, e2, e3]
  · rw [List.getElem?_eq_none (by omega), if_neg (by omega)]
theorem CopyRows.rowsAt {w wr : World} {rs ms : List RowV} {j cu na : Nat} {Au A : Option Addr} (h : CopyRows w wr rs Au j cu ms) (hr : RowsAt w w.heap.size A na rs) : RowsAt wr wr.heap.size Au j ms := by
  refine h.rows.rows fun r hm => ?_
  obtain ⟨i, hi⟩ := List.getElem?_of_mem hm
  obtain ⟨q, e1, e2, e3, e4⟩ := h.each i r hi
  exact ⟨e4.bytes, by rw [e2]; exact (hr.2.1 q (List.mem_of_getElem? e1)).2.1, e4.le⟩
theorem RowsAt.takes {w : World} {B n k : Nat} {A : Option Addr} {rs : List RowV} (h : RowsAt w B A n rs) (hk : k ≤ n) : RowsAt w B A k (rs.take k) := by
  refine ⟨by rw [List.length_take, h.1]; omega, fun r hr => h.2.1 r (List.mem_of_mem_take hr), fun hp => ?_⟩
  obtain ⟨b, off, e, hb, hc⟩ := h.2.2 (by omega)
  refine ⟨b, off, e, hb, fun i r hi => hc i r ?_⟩
  rw [List.getElem?_take] at hi
  split at hi
  · exact hi
  · cases hi
theorem comb_len (rs : List RowV) (C : List Nat) (h : ∀ r ∈ rs, r.n ≤ 140737488351232) : (combAll rs C).length ≤ 140737488351232 := by
  cases rs with
  | nil => simp [combAll]
  | cons r t =>
    have h1 := h r (by simp)
    rw [combAll]
    split
    · rw [combOf]
      split
      · rw [vComb, tab_length]; exact h1
      · simp
    · simp
set_option maxRecDepth 100000 in
set_option linter.unusedVariables false in
set_option maxHeartbeats 8000000 in
theorem combines_any (na ca nc cc : Nat) (vn vi : Int) (A1 A2 : Option Addr) (rs : List RowV) (cs : List Nat) (w : World) (h1 : RowsAt w w.heap.size A1 na rs) (h2 : Bytes w w.heap.size A2 nc cs)
    (m1 : na ≤ 140737488351232) (m2 : nc ≤ 140737488351232) (q1 : na ≤ ca) (q2 : nc ≤ cc) :
    Calls Try.prog 4 #[.slice A1 na ca, .slice A2 nc cc, .int .i64 vn, .int .i64 vi] w fun e w' => e = .returned (.bool true) ∧ Keep w w' := by
  obtain ⟨k, hk, l1, l2⟩ : ∃ n : Nat, min (na : Int) 60 = (n : Int) ∧ n ≤ na ∧ n ≤ 60 := ⟨min na 60, by omega, by omega, by omega⟩
  have hmin := min60 na k hk
  have H1 := Lib.hid h1
  have B2 := Lib.hid h2
  have e9 : (k : Int) ≤ (ca : Int) := by omega
  clear h1 h2 hk
  go_enter Try.func4, Try.ntmps4
  go_wp2_with fail
  clear hmin
  go_loopw [9, 10] (fun u i wr => ∃ (j : Nat) (Au : Option Addr) (cu : Nat) (ms : List RowV), j ≤ k ∧ i = .int .i64 j ∧ u = .slice Au j cu ∧ CopyRows w wr rs Au j cu ms ∧ Keep w wr) (fun _ i _ => k - (intOf i).toNat)
  case atStart => exact ⟨0, none, 0, [], by omega, rfl, rfl, ⟨OwnRows.none_ _ _ _, fun j r hr => by simp at hr⟩, Keep.refl _⟩
  case round =>
    obtain ⟨j, Au, cu, ms, hj, rfl, rfl, hu, hkeep⟩ := hrel
    have HU := Lib.hid hu
    have HK := Lib.hid hkeep
    clear hu hkeep
    by_cases hlt : j < k
    · obtain ⟨b, off, r, rfl, hb, hr, hc, hby, hrn, _⟩ := H1.out.at_ (k := j) (by omega)
      have hcr := (HK.out.cell (p := ⟨b, off + j, none⟩) hb).trans hc
      have e1 : (0 : Int) ≤ (j : Int) := Int.natCast_nonneg _
      have e2 : (j : Int) < (k : Int) := by omega
      have HBY := Lib.hid hby
      have HR := Lib.hid hr
      clear hby hr hc
      go_wp2_with fail
      refine (own_any _ r.n _ _ _ _ (HBY.out.keep (Nat.le_refl _) HK.out) hrn).mono ?_
      rintro e w2 ⟨P1, n1, c1, rfl, o1, s1⟩
      obtain rfl : n1 = r.n := o1.length.symm.trans HBY.out.length
      have hcell : (w2.alloc (.cells #[.slice P1 r.n c1] 22)).cell? ⟨w2.heap.size, 0, none⟩ = some (RowV.val ⟨P1, r.n, c1, r.xs⟩) := by
        rw [cell_of_row _ _ _ _ _ _ (heap_alloc_new w2 _)]; rfl
      have HCELL := Lib.hid hcell
      have OP := Lib.hid o1
      have HU2 := Lib.hid (HU.out.keep s1)
      have KE := Lib.hid (Keep.trans HK.out s1)
      have HB := Lib.hid HK.out.size
      clear hcell o1 s1 hcr
      go_wp2_with (at_builtin; refine wpList_append_row rfl _ _ 41 rfl ⟨P1, r.n, c1, r.xs⟩ Try.underlying41 info22 rfl (HU2.out.rows.alloc _) rfl HCELL.out (by omega) (by have := KE.out.size; simp; omega) ?_)
      intro A2' c2 w5 hown2 hgr2 _
      have HN := Lib.hid (HU2.out.next OP.out HB.out HR.out rfl rfl hown2 hgr2)
      have HK5 := Lib.hid (Keep.grown (Keep.alloc KE.out _ _) hgr2 (HU2.out.rows.rowLe))
      clear hown2 hgr2
      go_wp2_with fail
      go_roundw
      case rel => exact ⟨j + 1, A2', c2, _, by omega, by go_num, rfl, HN.out, HK5.out⟩
      case measure => simp [intOf]; omega
    · obtain rfl : k = j := by omega
      have hsh := HU.out.shape (by have := H1.out.1; omega)
      obtain ⟨cm1, cm2⟩ := comb_shape hsh cs
      have HR2 := Lib.hid (H1.out.takes l1)
      obtain ⟨RT, hRT⟩ : ∃ l, rs.take k = l := ⟨_, rfl⟩
      rw [hRT] at cm1 cm2 HR2
      obtain ⟨LC, hLC⟩ : ∃ l, combAll RT cs = l := ⟨_, rfl⟩
      obtain ⟨ec, hec⟩ : ∃ l, combAllE RT cs = l := ⟨_, rfl⟩
      obtain ⟨LU, hLU⟩ : ∃ l, unitOf vn vi = l := ⟨_, rfl⟩
      obtain ⟨eu, heu⟩ : ∃ l, unitErr vn vi = l := ⟨_, rfl⟩
      rw [hLC] at cm1
      rw [hec] at cm2
      have E1 := Lib.hid (And.intro cm1 cm2)
      have E2 := Lib.hid (And.intro hLC hec)
      have E3 := Lib.hid (And.intro hLU heu)
      have HLE : Hid (LC.length ≤ 140737488351232) := by
        show _ ≤ _
        rw [← hLC]
        exact comb_len RT cs fun r hr => (HR2.out.2.1 r hr).2.1
      clear hsh cm1 cm2 hRT hLC hec hLU heu hlt
      go_wp2_with fail
      refine (own_any _ nc _ _ _ _ (B2.out.keep (Nat.le_refl _) HK.out) m2).mono ?_
      rintro e w1 ⟨P1, n1, c1, rfl, o1, s1⟩
      obtain rfl : n1 = nc := o1.length.symm.trans B2.out.length
      have O1 := Lib.hid o1
      have S1 := Lib.hid s1
      have K1 := Lib.hid (Keep.trans HK.out s1)
      have HU1 := Lib.hid (HU.out.keep s1)
      clear o1 s1
      go_wp2_with fail
      refine (vcomb_all _ _ k _ _ _ _ _ ms cs _ (HU1.out.rowsAt H1.out) O1.out.bytes (Nat.le_refl _) (Nat.le_refl _) (by omega)).mono ?_
      rw [E1.out.1, E1.out.2]
      rintro e w2 ⟨P2, n2, c2, rfl, o2, s2⟩
      have O2 := Lib.hid o2
      have S2 := Lib.hid s2
      have K2 := Lib.hid (Keep.trans K1.out s2)
      clear o2 s2
      go_wp2_with fail
      refine (rcomb_all _ _ k _ _ _ _ _ RT cs _ (HR2.out.keep (Nat.le_refl _) K2.out) (B2.out.keep (Nat.le_refl _) K2.out) K2.out.size K2.out.size (by omega)).mono ?_
      rw [E2.out.1, E2.out.2]
      rintro e w3 ⟨P3, n3, c3, rfl, o3, s3⟩
      have O3 := Lib.hid o3
      have S3 := Lib.hid s3
      have K3 := Lib.hid (Keep.trans K2.out s3)
      clear o3 s3
      go_wp2_with fail
      refine (vunit_all vn vi _).mono ?_
      rw [E3.out.1, E3.out.2]
      rintro e w4 ⟨P4, n4, c4, rfl, o4, s4⟩
      have O4 := Lib.hid o4
      have S4 := Lib.hid s4
      have K4 := Lib.hid (Keep.trans K3.out s4)
      clear o4 s4
      go_wp2_with fail
      refine (runit_all vn vi _).mono ?_
      rw [E3.out.1, E3.out.2]
      rintro e w5 ⟨P5, n5, c5, rfl, o5, s5⟩
      have O5 := Lib.hid o5
      have S5 := Lib.hid s5
      have K5 := Lib.hid (Keep.trans K4.out s5)
      clear o5 s5
      have t2 := run_str (O2.out.bytes.keep (Nat.le_refl _) (Keep.trans S3.out (Keep.trans S4.out S5.out))) Try.underlying22 Try.underlying5 Try.underlying9 c2
      have t3 := run_str (O3.out.bytes.keep (Nat.le_refl _) (Keep.trans S4.out S5.out)) Try.underlying22 Try.underlying5 Try.underlying9 c3
      have t4 := run_str (O4.out.bytes.keep (Nat.le_refl _) S5.out) Try.underlying22 Try.underlying5 Try.underlying9 c4
      have t5 := run_str O5.out.bytes Try.underlying22 Try.underlying5 Try.underlying9 c5
      go_wp2_with fail
      clear t2 t3 t4 t5
      have n2le : n2 ≤ 140737488351232 := by have h := O2.out.length; have := HLE.out; omega
      have M2 : Hid (Mine w1 w5 P2 n2 c2) := ⟨_, O2.out.keep (Keep.trans S3.out (Keep.trans S4.out S5.out))⟩
      have KE : Hid (Keep w1 w5) := Keep.trans S2.out (Keep.trans S3.out (Keep.trans S4.out S5.out))
      clear O3 O4 O5
      go_loopw [20] (fun i wr => ∃ r : Nat, r ≤ n2 ∧ i = .int .i64 r ∧ Mine w1 wr P2 n2 c2 ∧ Keep w1 wr) (fun i _ => n2 - (intOf i).toNat)
      case atStart => exact ⟨0, by omega, rfl, M2.out, KE.out⟩
      case round =>
        clear M2 KE O2
        obtain ⟨r, hr, rfl, h3, hkeep⟩ := hrel
        by_cases hlt : r < n2
        · obtain ⟨g, v, rfl, hg, hv, hc, hf⟩ := h3.at_ hlt
          obtain ⟨u, hu⟩ : ∃ u, v ^^^ 255 = u := ⟨_, rfl⟩
          have hu2 : u < 256 := by rw [← hu]; exact xor_lt hv (by decide)
          have hxor : bits .xor .u8 (v : Int) 255 = (u : Int) := by rw [← hu]; exact u8_xor_nat v 255 hv (by decide)
          have H3 := Lib.hid (h3.set g r u hu2)
          have HK := Lib.hid (hkeep.setCell (a := ⟨g, r, none⟩) hg (.int .u8 (u : Int)))
          have e1 : (0 : Int) ≤ (r : Int) := Int.natCast_nonneg _
          have e2 : (r : Int) < (n2 : Int) := by omega
          clear h3 hkeep hu
          go_wp2_with fail
          go_round
          case rel => exact ⟨r + 1, by omega, by go_num, H3.out, HK.out⟩
          case measure => simp [intOf]; omega
        · have e2 : ¬ (r : Int) < (n2 : Int) := by omega
          have HK := Lib.hid hkeep
          have KW := Lib.hid (Keep.trans K1.out hkeep)
          have HUW := Lib.hid (HU1.out.keep hkeep)
          obtain ⟨wz, hwz⟩ : ∃ wz, wz = wr := ⟨_, rfl⟩
          subst hwz
          clear h3 hkeep hr
          go_wp2_with fail
          go_loopw [21] (fun i wr' => ∃ (j m : Nat), j ≤ k ∧ i = .int .i64 j ∧ wr' = wz.drewN m) (fun i _ => k - (intOf i).toNat)
          case atStart => exact ⟨0, 0, by omega, rfl, rfl⟩
          case round =>
            obtain ⟨j, m, hj, rfl, rfl⟩ := hrel
            by_cases hlt : j < k
            · obtain ⟨b, off, r, rfl, hb, hr, hc, hby, hrn, _⟩ := H1.out.at_ (k := j) (by omega)
              have hc1 := (KW.out.cell (p := ⟨b, off + j, none⟩) hb).trans hc
              obtain ⟨b2, off2, r2, rfl, hb2, hr2, hc2, hby2, hrn2, _⟩ := (HUW.out.rowsAt H1.out).at_ (k := j) hlt
              obtain ⟨r', e1, e2, e3, _⟩ := HUW.out.each j r2 hr2
              obtain rfl : r' = r := Option.some.inj (e1.symm.trans hr)
              have hq1 : ∀ n, (convert 22 9 (.slice r'.A r'.n r'.c)).run Try.prog (wz.drewN n) = .ok (.string (strN r'.xs)) (wz.drewN n) := fun n => str_later hby (Nat.le_refl _) _ (Keep.drewN KW.out n)
              have hq2 : ∀ n, (convert 22 9 (.slice r2.A r2.n r2.c)).run Try.prog (wz.drewN n) = .ok (.string (strN r'.xs)) (wz.drewN n) := fun n => by
                rw [← e3]; exact str_later hby2 (Nat.le_refl _) _ (Keep.drewN (Keep.refl _) n)
              have f1 : (0 : Int) ≤ (j : Int) := Int.natCast_nonneg _
              have f2 : (j : Int) < (k : Int) := by omega
              clear hby hby2 hr hr2 e1 e2 e3 hc
              go_wp2_with fail
              go_quiet (fail)
              go_wp2_with fail
              go_round
              case rel => exact ⟨j + 1, _, by omega, by go_num, by first | rfl | exact World.drewN_drewN ..⟩
              case measure => simp [intOf]; omega
            · obtain rfl : k = j := by omega
              go_wp2_with fail
              refine (wakes_any _).mono ?_
              rintro e wy ⟨rfl, sz⟩
              have SZ := Lib.hid sz
              clear sz
              go_wp2_with fail
              go_ret
              exact ⟨rfl, Keep.trans (Keep.drewN KW.out m) SZ.out⟩
end Go.Proofs.Ytkinhhplhkbljaa
