/- The walk of VectorUnits. -/
import Derived.Test.YtkinhhplhkbljaaWakes
import Derived.Test.YtkinhhplhkbljaaRows2
namespace Go.Proofs.Ytkinhhplhkbljaa
open Go.RowKit
theorem info22 : (Try.prog.info? 22).map (fun i => (i.zero, i.size, i.bytes)) = some (some (.slice none 0 0), 1, 24) := by kernel_rfl
theorem min2 (a b n : Nat) (h : min (a : Int) (b : Int) = (n : Int)) (w : World) :
    (Builtin.min_ #[3, 3] 3 #[.int .i64 a, .int .i64 b]).run Try.prog w = .ok (.int .i64 n) w := by
  rw [run_min_int2]
  congr 2
  split <;> omega
theorem min30 (a n : Nat) (h : min (a : Int) 30 = (n : Int)) (w : World) :
    (Builtin.min_ #[3, 3] 3 #[.int .i64 a, .int .i64 30]).run Try.prog w = .ok (.int .i64 n) w := by
  rw [run_min_int2]
  congr 2
  split <;> omega
theorem Own.le {w : World} {base n c : Nat} {e : TypeId} {A : Option Addr} {xs : List Nat} (h : Own w base e A n c xs) : n ≤ c := by
  rcases h.1.2 with ⟨hv, h0⟩ | ⟨g, cap, cur, hv, _, _, hle, _⟩
  · omega
  · injection hv with _ _ h3; omega
theorem vLead_unit' (n k : Nat) (hk : k < n) : vLead n (vUnit n k) = k := by
  have h : vLeadTo (vUnit n k) n = some k := (vLeadTo_some _ n k).2 ⟨hk, by rw [vUnit, tab_getD, if_pos hk, if_pos rfl]; decide, fun i hi => by rw [vUnit, tab_getD, if_pos (by omega), if_neg (by omega)]⟩
  rw [vLead, h]
theorem vDot_unit (n k : Nat) (xs : List Nat) (hk : k < n) (hx : AllB xs) : vDot n (vUnit n k) xs = xs.getD k 0 := by
  rw [vDot, sumX_one _ n k hk (fun i hi hne => by rw [vUnit, tab_getD, if_pos hi, if_neg hne, mul_zero_left]), vUnit, tab_getD, if_pos hk, if_pos rfl, mul_one_left _ (hx.getD k)]
theorem vComb_units (n : Nat) (rs : List RowV) (xs : List Nat) (hl : rs.length = n) (hr : ∀ j r, rs[j]? = some r → r.xs = vUnit n j) (hx : xs.length = n) (hb : AllB xs) : vComb n (rowsOf rs) xs n = xs := by
  subst hx
  have e : vComb xs.length (rowsOf rs) xs xs.length = tab xs.length (fun i => xs.getD i 0) := tab_congr fun j hj => by
    have hrow : ∀ i, i < xs.length → (rowsOf rs).getD i [] = vUnit xs.length i := fun i hi => by
      have h1 := List.getElem?_eq_getElem (show i < rs.length by omega)
      rw [rowsOf_getD h1]
      exact hr i _ h1
    rw [vCombAt, sumX_one _ _ j hj (fun i hi hne => by rw [hrow i hi, vUnit, tab_getD, if_pos hj, if_neg (fun e => hne e.symm), mul_zero_left]), hrow j hj, vUnit, tab_getD, if_pos hj, if_pos rfl, mul_one_left _ (hb.getD j)]
  rw [e, tab_self]
theorem vLead_next (k : Nat) (xs : List Nat) : vLead (k + 1) xs = (if vLead k xs < 0 then (if xs.getD k 0 = 0 then (-1 : Int) else (k : Int)) else vLead k xs) := by
  unfold vLead
  rw [vLeadTo]
  cases vLeadTo xs k with
  | none =>
    by_cases hz : xs.getD k 0 = 0
    · rw [if_pos hz, if_pos hz]; rfl
    · rw [if_neg hz, if_neg hz]; rfl
  | some j =>
    show (j : Int) = if (j : Int) < 0 then _ else (j : Int)
    rw [if_neg (by omega)]
/-- Units, as rows in new memory. -/
structure UnitRows (w wr : World) (n : Nat) (Au : Option Addr) (k cu : Nat) (rs : List RowV) : Prop where
  rows : OwnRows wr w.heap.size 22 Au k cu rs
  each : ∀ j r, rs[j]? = some r → r.n = n ∧ r.xs = vUnit n j ∧ Own wr w.heap.size 5 r.A r.n r.c r.xs
theorem UnitRows.next {w w3 w5 : World} {o : Obj} {n k cu A2 c2 : _} {Au P : Option Addr} {base cp : Nat} {rs : List RowV} (h : UnitRows w w3 n Au k cu rs) (hp : Own w3 base 5 P n cp (vUnit n k)) (hb : w.heap.size ≤ base)
    (h2 : OwnRows w5 w.heap.size 22 A2 (k + 1) c2 (rs ++ [⟨P, n, cp, vUnit n k⟩])) (hg : (w3.alloc o).grownBy w5 (Value.slice Au k cu).ownBlock) : UnitRows w w5 n A2 (k + 1) c2 (rs ++ [⟨P, n, cp, vUnit n k⟩]) := by
  refine ⟨h2, fun j r hr => ?_⟩
  have hl := h.rows.length
  have push : ∀ {A : Option Addr} {m c : Nat} {xs : List Nat} {b : Nat}, Own w3 b 5 A m c xs → Own w5 b 5 A m c xs := fun ho => (ho.alloc o).grown hg (blocks_apart (ho.alloc o) (h.rows.alloc o) (by decide))
  rcases Nat.lt_or_ge j rs.length with hj | hj
  · rw [List.getElem?_append_left hj] at hr
    obtain ⟨e1, e2, e3⟩ := h.each j r hr
    exact ⟨e1, e2, push e3⟩
  · rw [List.getElem?_append_right hj] at hr
    obtain ⟨hz, rfl⟩ : j - rs.length = 0 ∧ r = ⟨P, n, cp, vUnit n k⟩ := by
      cases hz : j - rs.length with
      | zero => rw [hz] at hr; simp at hr; exact ⟨rfl, hr.symm⟩
      | succ i => rw [hz] at hr; simp at hr
    obtain rfl : j = k := by omega
    exact ⟨rfl, rfl, push (hp.lower hb)⟩
theorem UnitRows.keep {w wr w' : World} {n k cu : Nat} {Au : Option Addr} {rs : List RowV} (h : UnitRows w wr n Au k cu rs) (kp : Keep wr w') : UnitRows w w' n Au k cu rs :=
  ⟨h.rows.keep kp, fun j r hr => by obtain ⟨a, b, c⟩ := h.each j r hr; exact ⟨a, b, c.keep kp⟩⟩
set_option maxRecDepth 100000 in
set_option maxHeartbeats 4000000 in
theorem units_any (na ca : Nat) (A1 : Option Addr) (xs : List Nat) (w : World) (h1 : Bytes w w.heap.size A1 na xs) (m1 : na ≤ 140737488351232) (q1 : na ≤ ca) :
    Calls Try.prog 7 #[.slice A1 na ca] w fun e w' => e = .returned (.bool true) ∧ Keep w w' := by
  obtain ⟨n, hn, l1, l2⟩ : ∃ n : Nat, min (na : Int) 30 = (n : Int) ∧ n ≤ na ∧ n ≤ 30 := ⟨min na 30, by omega, by omega, by omega⟩
  have hmin := min30 na n hn
  obtain ⟨X, hX⟩ : ∃ X, X = xs.take n := ⟨_, rfl⟩
  have a1 := h1.cut l1
  rw [← hX] at a1
  have B1 := Lib.hid a1
  clear hn hX h1 a1
  go_enter Try.func7, Try.ntmps7
  go_wp2_with fail
  clear hmin l1 q1 m1
  go_loopw [3, 4, 5] (fun u ld i wr => ∃ (k : Nat) (Au : Option Addr) (cu : Nat) (rs : List RowV), k ≤ n ∧ i = .int .i64 k ∧ ld = .int .i64 (vLead k X) ∧ u = .slice Au k cu ∧ UnitRows w wr n Au k cu rs ∧ Keep w wr) (fun _ _ i _ => n - (intOf i).toNat)
  case atStart => exact ⟨0, none, 0, [], by omega, rfl, rfl, rfl, ⟨OwnRows.none_ _ _ _, fun j r hr => by simp at hr⟩, Keep.refl _⟩
  case round =>
    obtain ⟨k, Au, cu, rs, hk, rfl, rfl, rfl, hu, hkeep⟩ := hrel
    have HU := Lib.hid hu
    have HK := Lib.hid hkeep
    clear hu hkeep
    by_cases hlt : k < n
    · have hx : X.getD k 0 < 256 := B1.out.all.getD k
      have hd := vDot_unit n k X hlt B1.out.all
      have hL := vLead_next k X
      obtain ⟨x, hxx⟩ : ∃ x, X.getD k 0 = x := ⟨_, rfl⟩
      obtain ⟨ld, hld⟩ : ∃ l, vLead k X = l := ⟨_, rfl⟩
      obtain ⟨lm, hlm⟩ : ∃ l, vLead (k + 1) X = l := ⟨_, rfl⟩
      rw [hxx, hld, hlm] at hL
      rw [hxx] at hx hd
      have HD := Lib.hid hd
      have HX := Lib.hid hxx
      have HLM := Lib.hid hlm
      have HL := Lib.hid hL
      have HVL := Lib.hid (vLead_unit' n k hlt)
      have HNEG : Hid (ld < 0 → ld = -1) := by
        show _ → _
        rw [← hld]; unfold vLead
        cases vLeadTo X k with
        | none => intro _; rfl
        | some j => intro h; exact absurd h (by simp)
      rw [hld]
      clear hd hxx hld hlm hL
      go_wp2_with fail
      refine (vunit_in n k hlt (by omega) _).mono ?_
      rintro e w1 ⟨P1, n1, c1, rfl, o1, s1⟩
      obtain rfl : n1 = n := by have e := o1.length; rw [vUnit, tab_length] at e; exact e.symm
      have O1 := Lib.hid o1
      have S1 := Lib.hid s1
      clear o1 s1
      go_wp2_with fail
      refine (vdot_any _ _ n1 _ _ _ _ _ _ _ O1.out.bytes (B1.out.keep (Nat.le_refl _) (Keep.trans HK.out S1.out)) (Nat.le_refl _) (Keep.trans HK.out S1.out).size (by omega)).mono ?_
      rw [HD.out]
      rintro e w2 ⟨rfl, s2⟩
      have S2 := Lib.hid s2
      have KE := Lib.hid (Keep.trans HK.out (Keep.trans S1.out s2))
      clear s2
      obtain ⟨b0, f0, rfl, hb0, hc0⟩ := (B1.out.keep (Nat.le_refl _) KE.out).at_ hlt
      rw [HX.out] at hc0
      have hcell : (w2.alloc (.cells #[.slice P1 n1 c1] 22)).cell? ⟨w2.heap.size, 0, none⟩ = some (RowV.val ⟨P1, n1, c1, vUnit n1 k⟩) := by
        rw [cell_of_row _ _ _ _ _ _ (heap_alloc_new w2 _)]; rfl
      have HCELL := Lib.hid hcell
      have HU2 := Lib.hid ((HU.out.keep S1.out).keep S2.out)
      have OP := Lib.hid (O1.out.keep S2.out)
      have HB := Lib.hid HK.out.size
      clear hcell
      by_cases hz : x = 0
      · have bx : ((x : Int) != 0) = false := by rw [hz]; rfl
        have hlm : lm = ld := by
          have h := HL.out
          by_cases hq : ld < 0
          · rw [if_pos hq, if_pos hz] at h
            rw [h]; exact (HNEG.out hq).symm
          · rw [if_neg hq] at h; exact h
        have HE := Lib.hid hlm
        clear hz hlm
        go_wp2_with fail
        refine (vlead_eq _ n1 _ _ _ _ (O1.out.bytes.keep (Nat.le_refl _) S2.out) (by omega)).mono ?_
        rw [HVL.out]
        rintro e w3 ⟨rfl, rfl⟩
        go_wp2_with (at_builtin; refine wpList_append_row rfl _ _ 41 rfl ⟨P1, n1, c1, vUnit n1 k⟩ Try.underlying41 info22 rfl (HU2.out.rows.alloc _) rfl HCELL.out (by omega) (by have := KE.out.size; simp; omega) ?_)
        intro A2 c2 w5 hown2 hgr2 _
        have HN := Lib.hid (HU2.out.next OP.out HB.out hown2 hgr2)
        have HK5 := Lib.hid (Keep.grown (Keep.alloc KE.out _ _) hgr2 (HU2.out.rows.rowLe))
        clear hown2 hgr2
        go_wp2_with fail
        go_roundw
        case rel => exact ⟨k + 1, A2, c2, _, by omega, by go_num, by rw [HLM.out, HE.out], rfl, HN.out, HK5.out⟩
        case measure => simp [intOf]; omega
      · have bx : ((x : Int) != 0) = true := by rw [bne_iff_ne]; omega
        by_cases hl : ld < 0
        · have hlm : lm = k := by have h := HL.out; rw [if_pos hl, if_neg hz] at h; exact h
          have HE := Lib.hid hlm
          clear hz hlm
          go_wp2_with fail
          refine (vlead_eq _ n1 _ _ _ _ (O1.out.bytes.keep (Nat.le_refl _) S2.out) (by omega)).mono ?_
          rw [HVL.out]
          rintro e w3 ⟨rfl, rfl⟩
          go_wp2_with (at_builtin; refine wpList_append_row rfl _ _ 41 rfl ⟨P1, n1, c1, vUnit n1 k⟩ Try.underlying41 info22 rfl (HU2.out.rows.alloc _) rfl HCELL.out (by omega) (by have := KE.out.size; simp; omega) ?_)
          intro A2 c2 w5 hown2 hgr2 _
          have HN := Lib.hid (HU2.out.next OP.out HB.out hown2 hgr2)
          have HK5 := Lib.hid (Keep.grown (Keep.alloc KE.out _ _) hgr2 (HU2.out.rows.rowLe))
          clear hown2 hgr2
          go_wp2_with fail
          go_roundw
          case rel => exact ⟨k + 1, A2, c2, _, by omega, by go_num, by rw [HLM.out, HE.out], rfl, HN.out, HK5.out⟩
          case measure => simp [intOf]; omega
        · have hlm : lm = ld := by have h := HL.out; rw [if_neg hl] at h; exact h
          have HE := Lib.hid hlm
          clear hz hlm
          go_wp2_with fail
          refine (vlead_eq _ n1 _ _ _ _ (O1.out.bytes.keep (Nat.le_refl _) S2.out) (by omega)).mono ?_
          rw [HVL.out]
          rintro e w3 ⟨rfl, rfl⟩
          go_wp2_with (at_builtin; refine wpList_append_row rfl _ _ 41 rfl ⟨P1, n1, c1, vUnit n1 k⟩ Try.underlying41 info22 rfl (HU2.out.rows.alloc _) rfl HCELL.out (by omega) (by have := KE.out.size; simp; omega) ?_)
          intro A2 c2 w5 hown2 hgr2 _
          have HN := Lib.hid (HU2.out.next OP.out HB.out hown2 hgr2)
          have HK5 := Lib.hid (Keep.grown (Keep.alloc KE.out _ _) hgr2 (HU2.out.rows.rowLe))
          clear hown2 hgr2
          go_wp2_with fail
          go_roundw
          case rel => exact ⟨k + 1, A2, c2, _, by omega, by go_num, by rw [HLM.out, HE.out], rfl, HN.out, HK5.out⟩
          case measure => simp [intOf]; omega
    · obtain rfl : k = n := by omega
      by_cases h0 : k = 0
      · have b0 : ((k : Int) == 0) = true := beq_iff_eq.2 (by omega)
        have hv : vLead k X = -1 := by rw [h0]; rfl
        have HV := Lib.hid hv
        clear h0 hv
        go_wp2_with fail
        refine (vlead_eq _ k _ _ _ _ (B1.out.keep (Nat.le_refl _) HK.out) (by omega)).mono ?_
        rw [HV.out]
        rintro e w3 ⟨rfl, rfl⟩
        go_wp2_with fail
        refine (wakes_any _).mono ?_
        rintro e wz ⟨rfl, sz⟩
        have SZ := Lib.hid sz
        clear sz
        go_wp2_with fail
        go_ret
        exact ⟨rfl, Keep.trans HK.out SZ.out⟩
      · have b0 : ((k : Int) == 0) = false := beq_eq_false_iff_ne.2 (by omega)
        have hl := HU.out.rows.length
        have hr0 := List.getElem?_eq_getElem (show 0 < rs.length by omega)
        have hrn : ∀ r ∈ rs, r.n = k := fun r hr => by
          obtain ⟨j, hj⟩ := List.getElem?_of_mem hr
          exact (HU.out.each j r hj).1
        have hrows := HU.out.rows.rows fun r hr => by
          obtain ⟨j, hj⟩ := List.getElem?_of_mem hr
          obtain ⟨e1, e2, e3⟩ := HU.out.each j r hj
          exact ⟨e3.bytes, by rw [e1]; omega, e3.le⟩
        obtain ⟨r0, hr00⟩ : ∃ r, rs[0] = r := ⟨_, rfl⟩
        rw [hr00] at hr0
        have hn0 : r0.n = k := (HU.out.each 0 r0 hr0).1
        have e1 : combOf r0.n rs X = X := by rw [hn0, combOf, if_pos hrn, hl]; exact vComb_units k rs X hl (fun j r hr => (HU.out.each j r hr).2.1) B1.out.length B1.out.all
        have e2 : combErr r0.n rs = 0 := by rw [hn0, combErr, if_pos hrn]
        have hc := vcomb_any _ _ k cu ca Au A1 rs X wr hrows (B1.out.keep (Nat.le_refl _) HK.out) (Nat.le_refl _) HK.out.size h0 (by omega) r0 hr0
        rw [e1, e2] at hc
        have HC := Lib.hid hc
        clear h0 hl hr0 hrn hrows hr00 hn0 e1 e2 hc
        go_wp2_with fail
        refine HC.out.mono ?_
        rintro e w5 ⟨P5, n5, c5, rfl, o5, s5⟩
        have t1 := run_str o5.bytes Try.underlying22 Try.underlying5 Try.underlying9 c5
        have KE := Lib.hid (Keep.trans HK.out s5)
        have t2 := run_str (B1.out.keep (Nat.le_refl _) KE.out) Try.underlying22 Try.underlying5 Try.underlying9 ca
        clear o5 s5
        go_wp2_with fail
        refine (vlead_eq _ k _ _ _ _ (B1.out.keep (Nat.le_refl _) KE.out) (by omega)).mono ?_
        rintro e w6 ⟨rfl, rfl⟩
        clear t1 t2
        go_wp2_with fail
        refine (wakes_any _).mono ?_
        rintro e wz ⟨rfl, sz⟩
        have SZ := Lib.hid sz
        clear sz
        go_wp2_with fail
        go_ret
        exact ⟨rfl, Keep.trans KE.out SZ.out⟩
end Go.Proofs.Ytkinhhplhkbljaa
