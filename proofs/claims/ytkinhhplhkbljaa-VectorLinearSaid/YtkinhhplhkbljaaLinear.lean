/- The walk of VectorLinear. -/
import Derived.Test.YtkinhhplhkbljaaLin
import Derived.Test.YtkinhhplhkbljaaRegion
namespace Go.Proofs.Ytkinhhplhkbljaa
open Go.RowKit
set_option maxRecDepth 100000 in
set_option linter.unusedSimpArgs false in
set_option linter.unusedVariables false in
set_option maxHeartbeats 16000000 in
theorem linear_any (na ca nb cb nd cd x y : Nat) (A1 A2 A3 : Option Addr) (rs : List RowV) (cs ds : List Nat) (w : World) (h1 : RowsAt w w.heap.size A1 na rs) (h2 : Bytes w w.heap.size A2 nb cs) (h3 : Bytes w w.heap.size A3 nd ds)
    (m1 : na ≤ 140737488351232) (m2 : nb ≤ 140737488351232) (m3 : nd ≤ 140737488351232) (q1 : na ≤ ca) (q2 : nb ≤ cb) (q3 : nd ≤ cd) (hx : x < 256) (hy : y < 256) :
    Calls Try.prog 6 #[.slice A1 na ca, .slice A2 nb cb, .slice A3 nd cd, .int .u8 x, .int .u8 y] w fun e w' => e = .returned (.bool true) ∧ Keep w w' := by
  obtain ⟨k, hk, l1, l2, l3, l4⟩ : ∃ n : Nat, min (na : Int) (min (nb : Int) (min (nd : Int) 20)) = (n : Int) ∧ n ≤ na ∧ n ≤ nb ∧ n ≤ nd ∧ n ≤ 20 := ⟨min na (min nb (min nd 20)), by omega, by omega, by omega, by omega, by omega⟩
  have hmin := min4c na nb nd k hk
  have H1 := Lib.hid h1
  obtain ⟨C, hC⟩ : ∃ C, cs.take k = C := ⟨_, rfl⟩
  obtain ⟨D, hD⟩ : ∃ D, ds.take k = D := ⟨_, rfl⟩
  have a2 := h2.cut l2
  have a3 := h3.cut l3
  rw [hC] at a2
  rw [hD] at a3
  have B2 := Lib.hid a2
  have B3 := Lib.hid a3
  clear h1 h2 h3 a2 a3 hC hD hk
  by_cases h0 : k = 0
  · have b0 : ((k : Int) == 0) = true := beq_iff_eq.2 (by omega)
    go_enter Try.func6, Try.ntmps6
    go_wp2_with fail
    refine (wakes_any _).mono ?_
    rintro e wz ⟨rfl, sz⟩
    go_wp2_with fail
    go_ret
    exact ⟨rfl, sz⟩
  have b0 : ((k : Int) == 0) = false := beq_eq_false_iff_ne.2 (by omega)
  obtain ⟨b, off, r0, rfl, hb, hr0, hc0, hby0, hrn0, _⟩ := H1.out.at_ (k := 0) (by omega)
  rw [Nat.add_zero] at hc0
  have HR0 := Lib.hid hr0
  clear hr0 hby0
  have e6 : (0 : Int) ≤ (k : Int) := Int.natCast_nonneg _
  have e7 : (k : Int) ≤ (cb : Int) := by omega
  have e8 : (k : Int) ≤ (cd : Int) := by omega
  have e9 : (k : Int) ≤ (ca : Int) := by omega
  have e10 : (0 : Int) < (k : Int) := by omega
  go_enter Try.func6, Try.ntmps6
  go_wp2_with fail
  clear hmin
  go_quiet (fail)
  go_wp2_with fail
  clear hc0
  go_loop [12, 13] (fun nn i => ∃ j m : Nat, j ≤ k ∧ i = .int .i64 j ∧ nn = .int .i64 m ∧ m ≤ r0.n ∧ ∀ i' r, i' < j → rs[i']? = some r → m ≤ r.n) (fun _ i => k - (intOf i).toNat)
  case atStart => exact ⟨0, r0.n, by omega, rfl, rfl, by omega, fun i r hi => by omega⟩
  case round =>
    obtain ⟨j, m, hj, rfl, rfl, hm, hall⟩ := hrel
    have HA := Lib.hid hall
    clear hall
    by_cases hlt : j < k
    · obtain ⟨b', off', r, e, hb', hr, hc, hby, hrn, _⟩ := H1.out.at_ (k := j) (by omega)
      injection e with e
      injection e with ea eb
      subst ea eb
      have e1 : (0 : Int) ≤ (j : Int) := Int.natCast_nonneg _
      have e2 : (j : Int) < (k : Int) := by omega
      obtain ⟨m', hm', f1, f2⟩ : ∃ m' : Nat, min (m : Int) (r.n : Int) = (m' : Int) ∧ m' ≤ m ∧ m' ≤ r.n := ⟨min m r.n, by omega, by omega, by omega⟩
      have hmin := min2 m r.n m' hm'
      have HR := Lib.hid hr
      clear hm' hr hby
      go_wp2_with fail
      go_round
      case rel =>
        refine ⟨j + 1, m', by omega, by go_num, rfl, by omega, fun i' r' hi hr' => ?_⟩
        by_cases e : i' = j
        · subst e
          rw [HR.out] at hr'
          injection hr' with hr'
          subst hr'; exact f2
        · exact Nat.le_trans f1 (HA.out i' r' (by omega) hr')
      case measure => simp [intOf]; omega
    · obtain rfl : k = j := by omega
      have hme : m ≤ 140737488351232 := by omega
      go_wp2_with fail
      go_loopw [14, 15] (fun l i wr => ∃ (j : Nat) (Al : Option Addr) (cl : Nat), j ≤ k ∧ i = .int .i64 j ∧ l = .slice Al j cl ∧ OwnRows wr w.heap.size 22 Al j cl (cuts m rs j) ∧ Keep w wr) (fun _ i _ => k - (intOf i).toNat)
      case atStart => exact ⟨0, none, 0, by omega, rfl, rfl, OwnRows.none_ _ _ _, Keep.drewN (Keep.refl _) _⟩
      case round =>
        obtain ⟨j, Al, cl, hj, rfl, rfl, hl, hkeep⟩ := hrel
        by_cases hlt : j < k
        · obtain ⟨b', off', r, e, hb', hr, hc, hby, hrn, hrc⟩ := H1.out.at_ (k := j) (by omega)
          injection e with e
          injection e with ea eb
          subst ea eb
          have f := HA.out j r hlt hr
          have hcr := (hkeep.cell (p := ⟨b, off + j, none⟩) hb).trans hc
          have e1 : (0 : Int) ≤ (j : Int) := Int.natCast_nonneg _
          have e2 : (j : Int) < (k : Int) := by omega
          have e3 : (0 : Int) ≤ (m : Int) := Int.natCast_nonneg _
          have e4 : (m : Int) ≤ (r.c : Int) := by omega
          have HCS := Lib.hid (cuts_succ m rs j r hr)
          have HL := Lib.hid hl
          have HK := Lib.hid hkeep
          have hcell : (wr.alloc (.cells #[.slice r.A m r.c] 22)).cell? ⟨wr.heap.size, 0, none⟩ = some (r.cut m).val := by
            rw [cell_of_row _ _ _ _ _ _ (heap_alloc_new wr _)]; rfl
          have HCELL := Lib.hid hcell
          clear hl hkeep hr hby hc hcell
          go_wp2_with (at_builtin; refine wpList_append_row rfl _ _ 41 rfl (r.cut m) Try.underlying41 info22 rfl (HL.out.alloc _) rfl HCELL.out (by omega) (by have := HK.out.size; simp; omega) ?_)
          intro A4 c4 w4 hl4 hgr4 _
          have HK4 := Lib.hid (Keep.grown (Keep.alloc HK.out _ _) hgr4 (HL.out.rowLe))
          rw [← HCS.out] at hl4
          have HL4 := Lib.hid hl4
          clear hl4 hgr4 hcr
          go_wp2_with fail
          go_roundw
          case rel => exact ⟨j + 1, A4, c4, by omega, by go_num, rfl, HL4.out, HK4.out⟩
          case measure => simp [intOf]; omega
        · obtain rfl : k = j := by omega
          have hrl := H1.out.1
          obtain ⟨R, hR⟩ : ∃ R, rowsOf (cuts m rs k) = R := ⟨_, rfl⟩
          have hRa : ∀ i, AllB (R.getD i []) := by rw [← hR]; exact fun i => cuts_all H1.out i
          obtain ⟨id, hid, hid2⟩ : ∃ i : Nat, y % k = i ∧ i < k := ⟨_, rfl, Nat.mod_lt _ (by omega)⟩
          obtain ⟨b', off', r, e, hb', hr, hc, hby, hrn, hrc⟩ := H1.out.at_ (k := id) (by omega)
          injection e with e
          injection e with ea eb
          subst ea eb
          have f := HA.out id r hid2 hr
          have hrow : R.getD id [] = r.xs.take m := by rw [← hR, rowsOf_cuts m rs k id hid2 (by omega), rowAt_eq hr]
          have hB := hby.cut f
          have HBR := Lib.hid hB
          obtain ⟨RW, hRW⟩ : ∃ l, r.xs.take m = l := ⟨_, rfl⟩
          rw [hRW] at hrow HBR
          obtain ⟨LA, hLA⟩ : ∃ l, vComb m R C k = l := ⟨_, rfl⟩
          obtain ⟨LB, hLB⟩ : ∃ l, vComb m R D k = l := ⟨_, rfl⟩
          obtain ⟨CD, hCD⟩ : ∃ l, vAdd k C D = l := ⟨_, rfl⟩
          obtain ⟨LS, hLS⟩ : ∃ l, vAdd m LA LB = l := ⟨_, rfl⟩
          obtain ⟨SC, hSC⟩ : ∃ l, vScale k C x = l := ⟨_, rfl⟩
          obtain ⟨LX, hLX⟩ : ∃ l, vScale m LA x = l := ⟨_, rfl⟩
          obtain ⟨U, hU⟩ : ∃ l, vUnit k id = l := ⟨_, rfl⟩
          obtain ⟨p, hp⟩ : ∃ l, vDot k C D = l := ⟨_, rfl⟩
          obtain ⟨t, ht⟩ : ∃ l, vDot k C C = l := ⟨_, rfl⟩
          obtain ⟨s, hs⟩ : ∃ l, vDot k CD C = l := ⟨_, rfl⟩
          obtain ⟨mm, hmm⟩ : ∃ l, vDot k SC D = l := ⟨_, rfl⟩
          obtain ⟨v, hv⟩ : ∃ l, C.getD id 0 = l := ⟨_, rfl⟩
          have p2 : p < 256 := by rw [← hp]; exact vDot_lt k C D B2.out.all
          have t2 : t < 256 := by rw [← ht]; exact vDot_lt k C C B2.out.all
          have E1 := Lib.hid hLA
          have E2 := Lib.hid hLB
          have E3 := Lib.hid hCD
          have E4 : Hid (vComb m R CD k = LS) := by show _ = _; rw [← hCD, comb_add m k R C D hRa B2.out.all B3.out.all, hLA, hLB, hLS]
          have E5 := Lib.hid hLS
          have E6 := Lib.hid hSC
          have E7 : Hid (vComb m R SC k = LX) := by show _ = _; rw [← hSC, comb_scale m k x R C hRa B2.out.all hx, hLA, hLX]
          have E8 := Lib.hid hLX
          have E9 := Lib.hid hU
          have E10 : Hid (vComb m R U k = RW) := by show _ = _; rw [← hU, comb_unit m k id R (hRa id) (by rw [hrow]; exact HBR.out.length) hid2, hrow]
          have E11 := Lib.hid hp
          have E12 : Hid (vDot k D C = p) := by show _ = _; rw [dot_comm k C D B2.out.all B3.out.all, hp]
          have E13 := Lib.hid hs
          have E13' : Hid (t ^^^ p = s) := by show _ = _; rw [← hs, ← hCD, dot_add k C D C B2.out.all B3.out.all, ht, dot_comm k C D B2.out.all B3.out.all, hp]
          have E14 := Lib.hid ht
          have E16 := Lib.hid hmm
          have E16' : Hid (mulN p x = mm) := by show _ = _; rw [← hmm, ← hSC, dot_scale k x C D B2.out.all B3.out.all hx, hp]
          have E17 : Hid (vDot k U C = v) := by show _ = _; rw [← hU, vDot_unit k id C hid2 B2.out.all, hv]
          have EV := Lib.hid hv
          have ELA : Hid (LA.length = m) := by show _ = _; rw [← hLA, vComb, tab_length]
          have ELB : Hid (LB.length = m) := by show _ = _; rw [← hLB, vComb, tab_length]
          have ECD : Hid (CD.length = k) := by show _ = _; rw [← hCD, vAdd, tab_length]
          have ELS : Hid (LS.length = m) := by show _ = _; rw [← hLS, vAdd, tab_length]
          have ESC : Hid (SC.length = k) := by show _ = _; rw [← hSC, vScale, tab_length]
          have ELX : Hid (LX.length = m) := by show _ = _; rw [← hLX, vScale, tab_length]
          have EU : Hid (U.length = k) := by show _ = _; rw [← hU, vUnit, tab_length]
          have ERW : Hid (RW.length = m) := by show _ = _; exact HBR.out.length
          have ER := Lib.hid hR
          have K0 := Lib.hid hkeep
          have HL := Lib.hid hl
          have HR := Lib.hid hr
          have HYK := Lib.hid hid
          have HC0 := Lib.hid hc
          have HK0 := Lib.hid h0
          have hyk : (y : Int) % (k : Int) = (id : Int) := by rw [← hid]; simp
          have x1 : (0 : Int) ≤ (id : Int) := Int.natCast_nonneg _
          have x2 : (id : Int) < (k : Int) := by omega
          have x3 : (0 : Int) ≤ (m : Int) := Int.natCast_nonneg _
          clear hrl hR hRa hid hr hc hby hrow hB hRW hLA hLB hCD hLS hSC hLX hU hp ht hs hmm hv hkeep hl h0 f
          go_wp2_with fail
          refine (comb_call (C := _) H1.out HL.out K0.out HA.out (B2.out.keep (Nat.le_refl _) K0.out) K0.out.size HK0.out l1 (by omega)).mono ?_
          rw [ER.out, E1.out]
          rintro e w1 ⟨P1, n1, c1, rfl, o1, s1⟩
          obtain rfl : m = n1 := by have h := o1.length; rw [ELA.out] at h; exact h
          have O1 := Lib.hid o1
          have S1 := Lib.hid s1
          have K1 := Lib.hid (Keep.trans K0.out S1.out)
          clear o1 s1
          go_wp2_with fail
          refine (comb_call (C := _) H1.out (HL.out.keep (S1.out)) K1.out HA.out (B3.out.keep (Nat.le_refl _) K1.out) K1.out.size HK0.out l1 (by omega)).mono ?_
          rw [ER.out, E2.out]
          rintro e w2 ⟨P2, n2, c2, rfl, o2, s2⟩
          obtain rfl : m = n2 := by have h := o2.length; rw [ELB.out] at h; exact h
          have O2 := Lib.hid o2
          have S2 := Lib.hid s2
          have K2 := Lib.hid (Keep.trans K1.out S2.out)
          clear o2 s2
          go_wp2_with fail
          refine (vadd_any _ _ k _ _ _ _ _ _ _ (B2.out.keep (Nat.le_refl _) K2.out) (B3.out.keep (Nat.le_refl _) K2.out) K2.out.size K2.out.size (by omega)).mono ?_
          rw [E3.out]
          rintro e w3 ⟨P3, n3, c3, rfl, o3, s3⟩
          obtain rfl : k = n3 := by have h := o3.length; rw [ECD.out] at h; exact h
          have O3 := Lib.hid o3
          have S3 := Lib.hid s3
          have K3 := Lib.hid (Keep.trans K2.out S3.out)
          clear o3 s3
          go_wp2_with fail
          refine (comb_call (C := _) H1.out (HL.out.keep (Keep.trans S1.out (Keep.trans S2.out (S3.out)))) K3.out HA.out O3.out.bytes (Nat.le_refl _) HK0.out l1 (by omega)).mono ?_
          rw [ER.out, E4.out]
          rintro e w4 ⟨P4, n4, c4, rfl, o4, s4⟩
          obtain rfl : m = n4 := by have h := o4.length; rw [ELS.out] at h; exact h
          have O4 := Lib.hid o4
          have S4 := Lib.hid s4
          have K4 := Lib.hid (Keep.trans K3.out S4.out)
          clear o4 s4
          go_wp2_with fail
          refine (vadd_any _ _ m _ _ _ _ _ _ _ (O1.out.bytes.keep (Nat.le_refl _) (Keep.trans S2.out (Keep.trans S3.out (S4.out)))) (O2.out.bytes.keep (Nat.le_refl _) (Keep.trans S3.out (S4.out))) (Keep.trans S2.out (Keep.trans S3.out (S4.out))).size (Keep.trans S3.out (S4.out)).size (by omega)).mono ?_
          rw [E5.out]
          rintro e w5 ⟨P5, n5, c5, rfl, o5, s5⟩
          obtain rfl : m = n5 := by have h := o5.length; rw [ELS.out] at h; exact h
          have O5 := Lib.hid o5
          have S5 := Lib.hid s5
          have K5 := Lib.hid (Keep.trans K4.out S5.out)
          clear o5 s5
          have t4 := run_str (O4.out.bytes.keep (Nat.le_refl _) (S5.out)) Try.underlying22 Try.underlying5 Try.underlying9 c4
          have t5 := run_str O5.out.bytes Try.underlying22 Try.underlying5 Try.underlying9 c5
          go_wp2_with fail
          clear t4 t5
          refine (vscale_any _ k _ _ _ _ _ (B2.out.keep (Nat.le_refl _) K5.out) K5.out.size (by omega) hx).mono ?_
          rw [E6.out]
          rintro e w6 ⟨P6, n6, c6, rfl, o6, s6⟩
          obtain rfl : k = n6 := by have h := o6.length; rw [ESC.out] at h; exact h
          have O6 := Lib.hid o6
          have S6 := Lib.hid s6
          have K6 := Lib.hid (Keep.trans K5.out S6.out)
          clear o6 s6
          go_wp2_with fail
          refine (comb_call (C := _) H1.out (HL.out.keep (Keep.trans S1.out (Keep.trans S2.out (Keep.trans S3.out (Keep.trans S4.out (Keep.trans S5.out (S6.out))))))) K6.out HA.out O6.out.bytes (Nat.le_refl _) HK0.out l1 (by omega)).mono ?_
          rw [ER.out, E7.out]
          rintro e w7 ⟨P7, n7, c7, rfl, o7, s7⟩
          obtain rfl : m = n7 := by have h := o7.length; rw [ELX.out] at h; exact h
          have O7 := Lib.hid o7
          have S7 := Lib.hid s7
          have K7 := Lib.hid (Keep.trans K6.out S7.out)
          clear o7 s7
          go_wp2_with fail
          have To7 := Lib.hid (str_later (c := c7) O7.out.bytes (Nat.le_refl _))
          have z : Keep w7 w7.drew := Keep.drew (Keep.refl _)
          refine wp_region_noPanic ?_
          refine wp_region_held_drew (S := (fun w' => (convert 22 9 (.slice P7 m c7)).run Try.prog w' = .ok (.string (strN LX)) w')) (by kernel_rfl) (To7.out _ z) (fun hHeld => ?_)
          refine wpAnyH_take (i := 0) (v := ?_) rfl (by kernel_rfl) (by kernel_rfl) (by kernel_rfl) (fun _ _ _ h => h) (Or.inl ⟨by rfl, ?_⟩) hHeld ?_
          rotate_left
          · intro wq hSw
            try dsimp only at hSw
            go_simp
            all_goals with_reducible rfl
          try simp only [Act.put, List.getElem_toArray, List.getElem_cons_succ, List.getElem_cons_zero, List.setIfInBounds_toArray, List.set_cons_zero, List.set_cons_succ]
          refine wpAnyH_take (i := 1) (v := ?_) rfl (by kernel_rfl) (by kernel_rfl) (by kernel_rfl) (fun _ _ _ h => h) (Or.inl ⟨by rfl, ?_⟩) hHeld ?_
          rotate_left
          · intro wq hSw
            try dsimp only at hSw
            go_simp
            all_goals with_reducible rfl
          try simp only [Act.put, List.getElem_toArray, List.getElem_cons_succ, List.getElem_cons_zero, List.setIfInBounds_toArray, List.set_cons_zero, List.set_cons_succ]
          refine wpAnyH_take (i := 2) (v := ?_) rfl (by kernel_rfl) (by kernel_rfl) (by kernel_rfl) (fun _ _ _ h => h) (Or.inl ⟨by rfl, ?_⟩) hHeld ?_
          rotate_left
          · intro wq hSw
            try dsimp only at hSw
            go_simp
            all_goals with_reducible rfl
          try simp only [Act.put, List.getElem_toArray, List.getElem_cons_succ, List.getElem_cons_zero, List.setIfInBounds_toArray, List.set_cons_zero, List.set_cons_succ]
          refine wpAnyH_take (i := 3) (v := ?_) rfl (by kernel_rfl) (by kernel_rfl) (by kernel_rfl) (fun _ _ _ h => h) (Or.inl ⟨by rfl, ?_⟩) hHeld ?_
          rotate_left
          · intro wq hSw
            try dsimp only at hSw
            go_simp
            all_goals with_reducible rfl
          try simp only [Act.put, List.getElem_toArray, List.getElem_cons_succ, List.getElem_cons_zero, List.setIfInBounds_toArray, List.set_cons_zero, List.set_cons_succ]
          refine wpAnyH_ready (rs := [4]) (by kernel_rfl) (by simp) ?_
          refine AllReadyH.cons rfl (fun K hK => ?_) AllReadyH.nil
          go_simp
          refine (vscale_any _ m _ _ _ _ w7.drew (Bytes.drew (O1.out.bytes.keep (Nat.le_refl _) (Keep.trans S2.out (Keep.trans S3.out (Keep.trans S4.out (Keep.trans S5.out (Keep.trans S6.out (S7.out)))))))) (Keep.trans S2.out (Keep.trans S3.out (Keep.trans S4.out (Keep.trans S5.out (Keep.trans S6.out (S7.out)))))).size (by omega) hx).mono ?_
          rw [E8.out]
          rintro e w8 ⟨P8, n8, c8, rfl, o8, s8⟩
          obtain rfl : m = n8 := by have h := o8.length; rw [ELX.out] at h; exact h
          have O8 := Lib.hid o8
          have S8 := Lib.hid (Keep.trans z s8)
          have K8 := Lib.hid (Keep.trans K7.out S8.out)
          clear o8 s8
          have To8 := Lib.hid (str_later (c := c8) O8.out.bytes (Nat.le_refl _))
          refine hK.out _ _ (To7.out _ (S8.out)) (fun _ => ?_)
          clear hK K hHeld
          refine wpAnyH_strong (S' := (fun w' => (convert 22 9 (.slice P8 m c8)).run Try.prog w' = .ok (.string (strN LX)) w' ∧ (convert 22 9 (.slice P7 m c7)).run Try.prog w' = .ok (.string (strN LX)) w')) (fun w h => h.2) _ _ _ _ ?_
          have hHeld : (fun w' => (convert 22 9 (.slice P8 m c8)).run Try.prog w' = .ok (.string (strN LX)) w' ∧ (convert 22 9 (.slice P7 m c7)).run Try.prog w' = .ok (.string (strN LX)) w') w8 := ⟨To8.out _ (Keep.refl _), To7.out _ (S8.out)⟩
          try simp only [Act.put, List.getElem_toArray, List.getElem_cons_succ, List.getElem_cons_zero, List.setIfInBounds_toArray, List.set_cons_zero, List.set_cons_succ]
          refine wpAnyH_take (i := 5) (v := ?_) rfl (by kernel_rfl) (by kernel_rfl) (by kernel_rfl) (fun _ _ _ h => h) (Or.inl ⟨by rfl, ?_⟩) hHeld ?_
          rotate_left
          · intro wq hSw
            try dsimp only at hSw
            go_simp
            all_goals with_reducible rfl
          try simp only [Act.put, List.getElem_toArray, List.getElem_cons_succ, List.getElem_cons_zero, List.setIfInBounds_toArray, List.set_cons_zero, List.set_cons_succ]
          refine wpAnyH_take (i := 6) (v := ?_) rfl (by kernel_rfl) (by kernel_rfl) (by kernel_rfl) (fun _ _ _ h => h) (Or.inl ⟨by rfl, ?_⟩) hHeld ?_
          rotate_left
          · intro wq hSw
            try dsimp only at hSw
            go_simp
            all_goals with_reducible rfl
          try simp only [Act.put, List.getElem_toArray, List.getElem_cons_succ, List.getElem_cons_zero, List.setIfInBounds_toArray, List.set_cons_zero, List.set_cons_succ]
          refine wpAnyH_done (by kernel_rfl) ?_ _
          refine NoPanic.normal ?_
          clear hHeld z To8 To7

          go_wp2_with fail
          refine (vunit_in k id hid2 (by omega) _).mono ?_
          rw [E9.out]
          rintro e w9 ⟨P9, n9, c9, rfl, o9, s9⟩
          obtain rfl : k = n9 := by have h := o9.length; rw [EU.out] at h; exact h
          have O9 := Lib.hid o9
          have S9 := Lib.hid s9
          have K9 := Lib.hid (Keep.trans K8.out S9.out)
          clear o9 s9
          go_wp2_with fail
          refine (comb_call (C := _) H1.out (HL.out.keep (Keep.trans S1.out (Keep.trans S2.out (Keep.trans S3.out (Keep.trans S4.out (Keep.trans S5.out (Keep.trans S6.out (Keep.trans S7.out (Keep.trans S8.out (S9.out)))))))))) K9.out HA.out O9.out.bytes (Nat.le_refl _) HK0.out l1 (by omega)).mono ?_
          rw [ER.out, E10.out]
          rintro e w10 ⟨P10, n10, c10, rfl, o10, s10⟩
          obtain rfl : m = n10 := by have h := o10.length; rw [ERW.out] at h; exact h
          have O10 := Lib.hid o10
          have S10 := Lib.hid s10
          have K10 := Lib.hid (Keep.trans K9.out S10.out)
          clear o10 s10
          obtain ⟨gb, go, r', rfl, _, hg1, hg2, _⟩ := (cuts_rows H1.out (HL.out.keep (Keep.trans S1.out (Keep.trans S2.out (Keep.trans S3.out (Keep.trans S4.out (Keep.trans S5.out (Keep.trans S6.out (Keep.trans S7.out (Keep.trans S8.out (Keep.trans S9.out (S10.out))))))))))) K10.out HA.out).at_ hid2
          obtain rfl : r' = r.cut m := Option.some.inj (hg1.symm.trans (cuts_get m rs k id r hid2 HR.out))
          have hg3 : w10.cell? ⟨gb, go + id, none⟩ = some (.slice r.A m r.c) := hg2
          have hq1 : ∀ n, (convert 22 9 (.slice P10 m c10)).run Try.prog (w10.drewN n) = .ok (.string (strN RW)) (w10.drewN n) := fun n => str_later O10.out.bytes (Nat.le_refl _) _ (Keep.drewN (Keep.refl _) n)
          have hq2 : ∀ n, (convert 22 9 (.slice r.A m r.c)).run Try.prog (w10.drewN n) = .ok (.string (strN RW)) (w10.drewN n) := fun n => str_later HBR.out (Nat.le_refl _) _ (Keep.drewN K10.out n)
          clear hg1 hg2
          go_wp2_with fail
          go_quiet (fail)
          clear hq1 hq2 hg3
          go_wp2_with fail
          refine (vdot_any _ _ k _ _ _ _ _ _ _ (B2.out.keep (Nat.le_refl _) (Keep.drewN K10.out nq)) (B3.out.keep (Nat.le_refl _) (Keep.drewN K10.out nq)) (Keep.drewN K10.out nq).size (Keep.drewN K10.out nq).size (by omega)).mono ?_
          rw [E11.out]
          rintro e w11 ⟨rfl, s11⟩
          have S11 := Lib.hid (Keep.trans (Keep.drewN (Keep.refl w10) nq) s11)
          have K11 := Lib.hid (Keep.trans K10.out S11.out)
          clear s11
          go_wp2_with fail
          refine (vdot_any _ _ k _ _ _ _ _ _ _ (B3.out.keep (Nat.le_refl _) K11.out) (B2.out.keep (Nat.le_refl _) K11.out) K11.out.size K11.out.size (by omega)).mono ?_
          rw [E12.out]
          rintro e w12 ⟨rfl, s12⟩
          have S12 := Lib.hid s12
          have K12 := Lib.hid (Keep.trans K11.out S12.out)
          clear s12
          go_wp2_with fail
          refine (vdot_any _ _ k _ _ _ _ _ _ _ (O3.out.bytes.keep (Nat.le_refl _) (Keep.trans S4.out (Keep.trans S5.out (Keep.trans S6.out (Keep.trans S7.out (Keep.trans S8.out (Keep.trans S9.out (Keep.trans S10.out (Keep.trans S11.out (S12.out)))))))))) (B2.out.keep (Nat.le_refl _) K12.out) (Keep.trans S4.out (Keep.trans S5.out (Keep.trans S6.out (Keep.trans S7.out (Keep.trans S8.out (Keep.trans S9.out (Keep.trans S10.out (Keep.trans S11.out (S12.out))))))))).size K12.out.size (by omega)).mono ?_
          rw [E13.out]
          rintro e w13 ⟨rfl, s13⟩
          have S13 := Lib.hid s13
          have K13 := Lib.hid (Keep.trans K12.out S13.out)
          clear s13
          go_wp2_with fail
          refine (vdot_any _ _ k _ _ _ _ _ _ _ (B2.out.keep (Nat.le_refl _) K13.out) (B2.out.keep (Nat.le_refl _) K13.out) K13.out.size K13.out.size (by omega)).mono ?_
          rw [E14.out]
          rintro e w14 ⟨rfl, s14⟩
          have S14 := Lib.hid s14
          have K14 := Lib.hid (Keep.trans K13.out S14.out)
          clear s14
          go_wp2_with fail
          refine (vscale_any _ k _ _ _ _ _ (B2.out.keep (Nat.le_refl _) K14.out) K14.out.size (by omega) hx).mono ?_
          rw [E6.out]
          rintro e w15 ⟨P15, n15, c15, rfl, o15, s15⟩
          obtain rfl : k = n15 := by have h := o15.length; rw [ESC.out] at h; exact h
          have O15 := Lib.hid o15
          have S15 := Lib.hid s15
          have K15 := Lib.hid (Keep.trans K14.out S15.out)
          clear o15 s15
          go_wp2_with fail
          refine (vdot_any _ _ k _ _ _ _ _ _ _ O15.out.bytes (B3.out.keep (Nat.le_refl _) K15.out) (Nat.le_refl _) K15.out.size (by omega)).mono ?_
          rw [E16.out]
          rintro e w16 ⟨rfl, s16⟩
          have S16 := Lib.hid s16
          have K16 := Lib.hid (Keep.trans K15.out S16.out)
          clear s16
          go_wp2_with fail
          refine (vdot_any _ _ k _ _ _ _ _ _ _ (O9.out.bytes.keep (Nat.le_refl _) (Keep.trans S10.out (Keep.trans S11.out (Keep.trans S12.out (Keep.trans S13.out (Keep.trans S14.out (Keep.trans S15.out (S16.out)))))))) (B2.out.keep (Nat.le_refl _) K16.out) (Keep.trans S10.out (Keep.trans S11.out (Keep.trans S12.out (Keep.trans S13.out (Keep.trans S14.out (Keep.trans S15.out (S16.out))))))).size K16.out.size (by omega)).mono ?_
          rw [E17.out]
          rintro e w17 ⟨rfl, s17⟩
          have S17 := Lib.hid s17
          have K17 := Lib.hid (Keep.trans K16.out S17.out)
          clear s17
          obtain ⟨gb2, go2, rfl, _, hg4⟩ := (B2.out.keep (Nat.le_refl _) K17.out).at_ hid2
          rw [EV.out] at hg4
          go_wp2_with fail
          refine (add_eq t p s t2 p2 E13'.out _).mono ?_
          rintro e wx ⟨rfl, rfl⟩
          go_wp2_with fail
          refine (mul_eq p x mm p2 hx E16'.out _).mono ?_
          rintro e wx ⟨rfl, rfl⟩
          go_wp2_with fail
          refine (wakes_any _).mono ?_
          rintro e wz ⟨rfl, sz⟩
          have SZ := Lib.hid sz
          clear sz hg4
          go_wp2_with fail
          go_ret
          exact ⟨rfl, Keep.trans K17.out SZ.out⟩
end Go.Proofs.Ytkinhhplhkbljaa
