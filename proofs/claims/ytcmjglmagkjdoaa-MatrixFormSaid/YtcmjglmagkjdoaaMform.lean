/- The walk of MatrixForm. -/
import Derived.Test.YtcmjglmagkjdoaaMlay
import Derived.Test.YtcmjglmagkjdoaaRegion
import Derived.Deep.DeepCutAuto
namespace Go.Proofs.Ytcmjglmagkjdoaa
open Go.RowKit Lin
set_option linter.unusedVariables false
set_option linter.unusedSimpArgs false
theorem index_four (a b c d : Value) (w : World) : (Instr.index 57 (.agg #[a, b, c, d]) (.int .i64 0)).run Try.prog w = .ok a w ∧ (Instr.index 57 (.agg #[a, b, c, d]) (.int .i64 1)).run Try.prog w = .ok b w ∧ (Instr.index 57 (.agg #[a, b, c, d]) (.int .i64 2)).run Try.prog w = .ok c w ∧ (Instr.index 57 (.agg #[a, b, c, d]) (.int .i64 3)).run Try.prog w = .ok d w := by
  have h : Try.prog.underlying 57 = some (.array 4 22) := Try.underlying57
  refine ⟨?_, ?_, ?_, ?_⟩ <;> simp [Instr.index, run_underlying h, asIntOf, go_sem]
theorem run_minf (a b : Nat) (w : World) : (Builtin.min_ #[3, 3] 3 #[.int .i64 (a : Int), .int .i64 (b : Int)]).run Try.prog w = .ok (.int .i64 ((min a b : Nat) : Int)) w := by
  rw [run_min_int2]; congr 2; split <;> omega
set_option maxRecDepth 100000 in
set_option maxHeartbeats 16000000 in
theorem form_any (n1 c1 s0 s1 ta x : Nat) (A1 : Option Addr) (xs : List Nat) (w : World) (h1 : Bytes w w.heap.size A1 n1 xs) (m1 : n1 ≤ 140737488355328) (b0 : s0 < 256) (b1 : s1 < 256) (b2 : ta < 256) (b3 : x < 256) :
    Calls Try.prog 6 #[.slice A1 n1 c1, .agg #[.int .u8 (s0 : Int), .int .u8 (s1 : Int)], .int .u8 (ta : Int), .int .u8 (x : Int)] w fun e w' => e = .returned (.bool true) ∧ Keep w w' := by
  have H1 := Lib.hid h1
  obtain ⟨q0, hq0⟩ : ∃ q, s0 % 6 = q := ⟨_, rfl⟩
  obtain ⟨k0, hk0⟩ : ∃ k, 1 + q0 = k := ⟨_, rfl⟩
  obtain ⟨q1, hq1⟩ : ∃ q, s1 % 6 = q := ⟨_, rfl⟩
  obtain ⟨k1, hk1⟩ : ∃ k, 1 + q1 = k := ⟨_, rfl⟩
  obtain ⟨kk, hkk⟩ : ∃ k, ta % k0 = k := ⟨_, rfl⟩
  have d1 : (s0 : Int) % 6 = (q0 : Int) := by omega
  have d2 : 1 + (q0 : Int) = (k0 : Int) := by omega
  have d3 : (s1 : Int) % 6 = (q1 : Int) := by omega
  have d4 : 1 + (q1 : Int) = (k1 : Int) := by omega
  have p0 : 1 ≤ k0 := by omega
  have r0 : k0 ≤ 6 := by omega
  have p1 : 1 ≤ k1 := by omega
  have r1 : k1 ≤ 6 := by omega
  have d5 : (ta : Int) % (k0 : Int) = (kk : Int) := by rw [← hkk]; simp
  have hkl : kk < k0 := by rw [← hkk]; exact Nat.mod_lt _ (by omega)
  have d0 : (k0 : Int) ≠ 0 := by omega
  obtain ⟨X, hX⟩ : ∃ X, shapeN xs k0 k1 = X := ⟨_, rfl⟩
  have sX : Hid (Sz k0 k1 X) := hX ▸ shape_sz xs k0 k1 h1.all
  have E0 := Lib.hid hX
  obtain ⟨R, hR⟩ : ∃ M, reduceN X = M := ⟨_, rfl⟩
  obtain ⟨p, hp⟩ : ∃ p, rk X = p := ⟨_, rfl⟩
  have sR : Hid (Sz p k1 R) := by
    show Sz _ _ _
    rw [← hp, ← hR]; exact red_sz sX.out
  obtain ⟨l, hl1, hl2, hl3, hl4⟩ := form_leads sX.out
  rw [hp] at hl1 hl2 hl3 hl4
  simp only [hR] at hl1 hl3 hl4
  have hple := rk_le sX.out
  rw [hp] at hple
  have HL := Lib.hid (And.intro hl1 (And.intro hl2 (And.intro hl3 hl4)))
  have E1 := Lib.hid (And.intro hR hp)
  have y1 : ¬ ((min k0 k1 : Nat) : Int) < (p : Int) := by omega
  have y1' : decide (min k0 k1 < p) = false := decide_eq_false (by omega)
  have mn := run_minf k0 k1
  clear h1 hX hq0 hq1 hk0 hk1 hkk hR hp hl1 hl2 hl3 hl4 hple
  go_enter Try.func6, Try.ntmps6
  go_upto_region 1 with fail
  have hbk := heap_alloc_new w (.cells #[.int .u8 (s0 : Int), .int .u8 (s1 : Int)] 51)
  have kb : Keep w (w.alloc (.cells #[.int .u8 (s0 : Int), .int .u8 (s1 : Int)] 51)) := (Keep.refl w).obj _
  obtain ⟨gs, hgs⟩ : ∃ g, w.heap.size = g := ⟨_, rfl⟩
  rw [hgs] at hbk
  simp only [hgs]
  have cs0 : (w.alloc (.cells #[.int .u8 (s0 : Int), .int .u8 (s1 : Int)] 51)).cell? ⟨gs, 0, none⟩ = some (.int .u8 (s0 : Int)) := by simp [World.cell?, hbk]
  have cs1 : (w.alloc (.cells #[.int .u8 (s0 : Int), .int .u8 (s1 : Int)] 51)).cell? ⟨gs, 1, none⟩ = some (.int .u8 (s1 : Int)) := by simp [World.cell?, hbk]
  clear hbk hgs
  have KB0 := Lib.hid kb
  generalize w.alloc (.cells #[.int .u8 (s0 : Int), .int .u8 (s1 : Int)] 51) = wb at *
  clear kb
  go_wp2_with fail
  go_quiet (fail)
  have KB := Lib.hid (KB0.out.drewN nq)
  generalize wb.drewN nq = w0 at *
  clear cs0 cs1 KB0
  go_wp2_with fail
  refine (shaped_mat _ n1 c1 k0 k1 A1 xs _ (H1.out.keep (Nat.le_refl _) KB.out) KB.out.size m1 (by omega) (by omega)).mono ?_
  rw [E0.out]
  rintro e w1 ⟨A3, n3, c3, rfl, mm, kk1⟩
  obtain rfl : k0 = n3 := (mm.cnt sX.out).symm
  have S1 : Hid (Sr w0 w1 [⟨A3, k0, c3, X⟩] []) := (Sr.start w0).more mm kk1
  clear mm kk1
  go_wp2_with fail
  refine (reduce_szm (S1.out.get 0 rfl) sX.out p0 (by omega) (by omega)).mono ?_
  rw [E1.out.1]
  rintro e w2 ⟨A4, n4, c4, rfl, mm, kk1⟩
  obtain rfl : p = n4 := (mm.cnt sR.out).symm
  have S2 : Hid (Sr w0 w2 [⟨A3, k0, c3, X⟩, ⟨A4, p, c4, R⟩] []) := S1.out.more mm kk1
  clear mm kk1 S1
  go_wp2_with fail
  go_loopw [14, 15] (fun lv iv wr => ∃ (j : Nat) (v : Int), j ≤ p ∧ iv = .int .i64 j ∧ lv = .int .i64 v ∧ (∀ i, j ≤ i → i < p → v < (l i : Int)) ∧ w2 = wr) (fun _ iv _ => p - (intOf iv).toNat)
  case atStart => exact ⟨0, -1, by omega, rfl, rfl, fun i _ _ => by omega, rfl⟩
  case round =>
    obtain ⟨j, v, hj, rfl, rfl, hv, rfl⟩ := hrel
    by_cases hlt : j < p
    · as_aux_lemma =>
        obtain ⟨b, off, Ay, cy, rfl, hb, hc, hby, hyc, _⟩ := (S2.out.get 1 rfl).row_at sR.out hlt
        obtain ⟨lj, hlj⟩ : ∃ x, l j = x := ⟨_, rfl⟩
        have hv1 := hv j (Nat.le_refl _) hlt
        have hll := (HL.out.1 j hlt)
        have ho := HL.out.2.2.1 j hlt
        rw [hlj] at hv1 hll ho
        obtain ⟨b2, o2, rfl, hb2, hc2⟩ := hby.at_ hll.2
        rw [ho] at hc2
        have e1 : (0 : Int) ≤ (j : Int) := Int.natCast_nonneg _
        have e2 : (j : Int) < (p : Int) := by omega
        have e3 : ¬ (lj : Int) ≤ v := by omega
        have e3' : decide ((lj : Int) ≤ v) = false := decide_eq_false e3
        have e4 : (0 : Int) ≤ (lj : Int) := Int.natCast_nonneg _
        have e5 : (lj : Int) < (k1 : Int) := by omega
        have hc2 : w2.cell? ⟨b2, o2 + lj, none⟩ = some (.int .u8 1) := hc2
        have HBY := Lib.hid hby
        have HLJ := Lib.hid (And.intro hlj hll)
        have HV := Lib.hid hv
        clear hv hv1 hll hlj ho hby
        go_wp2_with fail
        refine (vlead_eq _ k1 cy _ _ _ HBY.out (by omega)).mono ?_
        rw [HLJ.out.2.1]
        rintro e w9 ⟨rfl, rfl⟩
        go_wp2_with fail
        go_loopw [17] (fun kv wz => ∃ m : Nat, m ≤ p ∧ kv = .int .i64 m ∧ w2 = wz) (fun kv _ => p - (intOf kv).toNat)
        case atStart => exact ⟨0, by omega, rfl, rfl⟩
        case round =>
          obtain ⟨m, hm, rfl, rfl⟩ := hrel
          have f1 : (0 : Int) ≤ (m : Int) := Int.natCast_nonneg _
          by_cases hlt2 : m < p
          · have f2 : (m : Int) < (p : Int) := by omega
            by_cases hmj : m = j
            · subst hmj
              have f3 : ((m : Int) != (m : Int)) = false := by simp
              clear hlt2
              go_wp2_with fail
              go_roundw
              case rel => exact ⟨m + 1, by omega, by go_num, by first | trivial | rfl⟩
              case measure => simp [intOf]; omega
            · obtain ⟨b', off', Az, cz, hA, hb', hc', hbz, hzc, _⟩ := (S2.out.get 1 rfl).row_at sR.out hlt2
              injection hA with hA
              injection hA with hA1 hA2
              subst hA1 hA2
              have hz := HL.out.2.2.2 j m hlt hlt2 (fun e => hmj e.symm)
              rw [HLJ.out.1] at hz
              obtain ⟨b3, o3, rfl, hb3, hc3⟩ := hbz.at_ HLJ.out.2.2
              rw [hz] at hc3
              have hc3 : w2.cell? ⟨b3, o3 + lj, none⟩ = some (.int .u8 0) := hc3
              have f3 : ((m : Int) != (j : Int)) = true := by rw [bne_iff_ne]; omega
              have f3' : ¬ (m : Int) = (j : Int) := by omega
              clear hmj hbz hz hlt2
              go_wp2_with fail
              go_roundw
              case rel => exact ⟨m + 1, by omega, by go_num, by first | trivial | rfl⟩
              case measure => simp [intOf]; omega
          · obtain rfl : p = m := by omega
            go_wp2_with fail
            go_roundw
            case rel =>
              exact ⟨j + 1, (lj : Int), by omega, by go_num, rfl, fun i hi hip => by have := HL.out.2.1 j i (by omega) hip; rw [HLJ.out.1] at this; omega, by first | trivial | rfl⟩
            case measure => simp [intOf]; omega
    · obtain rfl : p = j := by omega
      clear hv
      go_wp2_with fail
      go_loopw [18] (fun iv wr => ∃ i : Nat, i ≤ k0 ∧ iv = .int .i64 i ∧ Keep w2 wr) (fun iv _ => k0 - (intOf iv).toNat)
      case atStart => exact ⟨0, by omega, rfl, Keep.refl _⟩
      case round =>
        obtain ⟨i, hi, rfl, hk⟩ := hrel
        by_cases hlt : i < k0
        · as_aux_lemma =>
            obtain ⟨b, off, Ay, cy, rfl, hb, hc, hby, hyc, _⟩ := ((S2.out.get 0 rfl).keep hk).row_at sX.out hlt
            have e1 : (0 : Int) ≤ (i : Int) := Int.natCast_nonneg _
            have e2 : (i : Int) < (k0 : Int) := by omega
            have HBY := Lib.hid hby
            have HK := Lib.hid hk
            clear hk hby
            go_wp2_with fail
            go_loopw [19, 20] (fun lv kv wz => ∃ (m : Nat) (A : Option Addr) (c : Nat), m ≤ p ∧ kv = .int .i64 m ∧ lv = .slice A k1 c ∧ Bytes wz wz.heap.size A k1 (clearTo k1 R (X.getD i []) m) ∧ Keep w2 wz) (fun _ kv _ => p - (intOf kv).toNat)
            case atStart => exact ⟨0, Ay, cy, by omega, rfl, rfl, HBY.out, HK.out⟩
            case round =>
              clear HBY HK
              obtain ⟨m, A, c, hm, rfl, rfl, hbz, hkz⟩ := hrel
              have f1 : (0 : Int) ≤ (m : Int) := Int.natCast_nonneg _
              by_cases hlt2 : m < p
              · have f2 : (m : Int) < (p : Int) := by omega
                obtain ⟨b', off', Az, cz, rfl, hb', hc', hbr, hzc, _⟩ := ((S2.out.get 1 rfl).keep hkz).row_at sR.out hlt2
                obtain ⟨lm, hlm⟩ : ∃ x, l m = x := ⟨_, rfl⟩
                have hll := (HL.out.1 m hlt2)
                rw [hlm] at hll
                obtain ⟨bl, ol, rfl, hbl, hcl⟩ := hbz.at_ hll.2
                obtain ⟨v, hv⟩ : ∃ v, (clearTo k1 R (X.getD i []) m).getD lm 0 = v := ⟨_, rfl⟩
                have hvb : v < 256 := hv ▸ hbz.all.getD lm
                rw [hv] at hcl
                have f3 : (0 : Int) ≤ (lm : Int) := Int.natCast_nonneg _
                have f4 : (lm : Int) < (k1 : Int) := by omega
                have hstep : vAddS k1 (clearTo k1 R (X.getD i []) m) (R.getD m []) v = clearTo k1 R (X.getD i []) (m + 1) := by
                  rw [clearTo, hll.1, Int.toNat_natCast, hv]
                have HBZ := Lib.hid hbz
                have HBR := Lib.hid hbr
                have HKZ := Lib.hid hkz
                have HST := Lib.hid hstep
                have HLL := Lib.hid hll
                clear hbz hbr hkz hstep hll hv hlm
                go_wp2_with fail
                refine wp_region_noPanic ?_
                refine wp_region_held_drew (S := fun wz => wz.cell? ⟨b', off' + m, none⟩ = some (.slice Az k1 cz) ∧ wz.cell? ⟨bl, ol + lm, none⟩ = some (.int .u8 (v : Int))) (by kernel_rfl) ⟨hc', hcl⟩ (fun hHeld => ?_)
                refine wpAnyH_take (i := 0) (v := ?_) rfl (by kernel_rfl) (by kernel_rfl) (by kernel_rfl) (fun _ _ _ h => h) (Or.inl ⟨by rfl, ?_⟩) hHeld ?_
                rotate_left
                · intro wq hSw
                  go_simp
                  all_goals with_reducible rfl
                try simp only [Act.put, List.getElem_toArray, List.getElem_cons_succ, List.getElem_cons_zero, List.setIfInBounds_toArray, List.set_cons_zero, List.set_cons_succ]
                refine wpAnyH_take (i := 1) (v := ?_) rfl (by kernel_rfl) (by kernel_rfl) (by kernel_rfl) (fun _ _ _ h => h) (Or.inl ⟨by rfl, ?_⟩) hHeld ?_
                rotate_left
                · intro wq hSw
                  go_simp
                  all_goals with_reducible rfl
                try simp only [Act.put, List.getElem_toArray, List.getElem_cons_succ, List.getElem_cons_zero, List.setIfInBounds_toArray, List.set_cons_zero, List.set_cons_succ]
                refine wpAnyH_take (i := 2) (v := ?_) rfl (by kernel_rfl) (by kernel_rfl) (by kernel_rfl) (fun _ _ _ h => h) (Or.inl ⟨by rfl, ?_⟩) hHeld ?_
                rotate_left
                · intro wq hSw
                  go_simp
                  all_goals with_reducible rfl
                try simp only [Act.put, List.getElem_toArray, List.getElem_cons_succ, List.getElem_cons_zero, List.setIfInBounds_toArray, List.set_cons_zero, List.set_cons_succ]
                refine wpAnyH_take (i := 3) (v := ?_) rfl (by kernel_rfl) (by kernel_rfl) (by kernel_rfl) (fun _ _ _ h => h) (Or.inl ⟨by rfl, ?_⟩) hHeld ?_
                rotate_left
                · intro wq hSw
                  go_simp
                  all_goals with_reducible rfl
                try simp only [Act.put, List.getElem_toArray, List.getElem_cons_succ, List.getElem_cons_zero, List.setIfInBounds_toArray, List.set_cons_zero, List.set_cons_succ]
                refine wpAnyH_take (i := 4) (v := ?_) rfl (by kernel_rfl) (by kernel_rfl) (by kernel_rfl) (fun _ _ _ h => h) (Or.inl ⟨by rfl, ?_⟩) hHeld ?_
                rotate_left
                · intro wq hSw
                  have q0 := hSw.1
                  go_simp
                  all_goals with_reducible rfl
                try simp only [Act.put, List.getElem_toArray, List.getElem_cons_succ, List.getElem_cons_zero, List.setIfInBounds_toArray, List.set_cons_zero, List.set_cons_succ]
                refine wpAnyH_take (i := 5) (v := ?_) rfl (by kernel_rfl) (by kernel_rfl) (by kernel_rfl) (fun _ _ _ h => h) (Or.inl ⟨by rfl, ?_⟩) hHeld ?_
                rotate_left
                · intro wq hSw
                  go_simp
                  all_goals with_reducible rfl
                try simp only [Act.put, List.getElem_toArray, List.getElem_cons_succ, List.getElem_cons_zero, List.setIfInBounds_toArray, List.set_cons_zero, List.set_cons_succ]
                refine wpAnyH_take (i := 6) (v := ?_) rfl (by kernel_rfl) (by kernel_rfl) (by kernel_rfl) (fun _ _ _ h => h) (Or.inl ⟨by rfl, ?_⟩) hHeld ?_
                rotate_left
                · intro wq hSw
                  go_simp
                  all_goals with_reducible rfl
                try simp only [Act.put, List.getElem_toArray, List.getElem_cons_succ, List.getElem_cons_zero, List.setIfInBounds_toArray, List.set_cons_zero, List.set_cons_succ]
                refine wpAnyH_take (i := 7) (v := ?_) rfl (by kernel_rfl) (by kernel_rfl) (by kernel_rfl) (fun _ _ _ h => h) (Or.inl ⟨by rfl, ?_⟩) hHeld ?_
                rotate_left
                · intro wq hSw
                  go_simp
                  all_goals with_reducible rfl
                try simp only [Act.put, List.getElem_toArray, List.getElem_cons_succ, List.getElem_cons_zero, List.setIfInBounds_toArray, List.set_cons_zero, List.set_cons_succ]
                refine wpAnyH_take (i := 8) (v := ?_) rfl (by kernel_rfl) (by kernel_rfl) (by kernel_rfl) (fun _ _ _ h => h) (Or.inl ⟨by rfl, ?_⟩) hHeld ?_
                rotate_left
                · intro wq hSw
                  go_simp
                  all_goals with_reducible rfl
                try simp only [Act.put, List.getElem_toArray, List.getElem_cons_succ, List.getElem_cons_zero, List.setIfInBounds_toArray, List.set_cons_zero, List.set_cons_succ]
                refine wpAnyH_take (i := 9) (v := ?_) rfl (by kernel_rfl) (by kernel_rfl) (by kernel_rfl) (fun _ _ _ h => h) (Or.inl ⟨by rfl, ?_⟩) hHeld ?_
                rotate_left
                · intro wq hSw
                  have q0 := hSw.1
                  go_simp
                  all_goals with_reducible rfl
                try simp only [Act.put, List.getElem_toArray, List.getElem_cons_succ, List.getElem_cons_zero, List.setIfInBounds_toArray, List.set_cons_zero, List.set_cons_succ]
                refine wpAnyH_ready (rs := [10]) (by kernel_rfl) (by simp) ?_
                refine AllReadyH.cons rfl (fun K hK => ?_) AllReadyH.nil
                go_simp
                refine (vlead_eq _ k1 cz _ _ wr.drew (HBR.out.keep (Nat.le_refl _) (Keep.drew (Keep.refl _))) (by omega)).mono ?_
                rintro e w7 ⟨rfl, rfl⟩
                rw [HLL.out.1]
                refine hK.out _ _ hHeld (fun hHeld => ?_)
                clear hK K
                try simp only [Act.put, List.getElem_toArray, List.getElem_cons_succ, List.getElem_cons_zero, List.setIfInBounds_toArray, List.set_cons_zero, List.set_cons_succ]
                refine wpAnyH_take (i := 11) (v := ?_) rfl (by kernel_rfl) (by kernel_rfl) (by kernel_rfl) (fun _ _ _ h => h) (Or.inl ⟨by rfl, ?_⟩) hHeld ?_
                rotate_left
                · intro wq hSw
                  go_simp
                  all_goals with_reducible rfl
                try simp only [Act.put, List.getElem_toArray, List.getElem_cons_succ, List.getElem_cons_zero, List.setIfInBounds_toArray, List.set_cons_zero, List.set_cons_succ]
                refine wpAnyH_take (i := 12) (v := ?_) rfl (by kernel_rfl) (by kernel_rfl) (by kernel_rfl) (fun _ _ _ h => h) (Or.inl ⟨by rfl, ?_⟩) hHeld ?_
                rotate_left
                · intro wq hSw
                  have q0 := hSw.2
                  go_simp
                  all_goals with_reducible rfl
                try simp only [Act.put, List.getElem_toArray, List.getElem_cons_succ, List.getElem_cons_zero, List.setIfInBounds_toArray, List.set_cons_zero, List.set_cons_succ]
                refine wpAnyH_ready (rs := [13]) (by kernel_rfl) (by simp) ?_
                refine AllReadyH.cons rfl (fun K hK => ?_) AllReadyH.nil
                go_simp
                refine (vaddS_any _ _ k1 _ _ v _ _ _ _ wr.drew (HBZ.out.keep (Nat.le_refl _) (Keep.drew (Keep.refl _))) (HBR.out.keep (Nat.le_refl _) (Keep.drew (Keep.refl _))) (Nat.le_refl _) (Nat.le_refl _) (by omega) hvb).mono ?_
                rintro e w9 ⟨A9, n9, c9, rfl, oo, k9⟩
                rw [HST.out] at oo
                obtain rfl : k1 = n9 := by rw [← oo.length, ← HST.out, vAddS, tab_length]
                have kk9 : Keep wr w9 := (Keep.drew (Keep.refl wr)).trans k9
                have K9 := Lib.hid (HKZ.out.trans kk9)
                have B9 := Lib.hid oo.bytes
                have e5 := (kk9.cell (p := ⟨b', off' + m, none⟩) hb').trans hc'
                have e6 := (kk9.cell (p := ⟨bl, ol + lm, none⟩) hbl).trans hcl
                clear oo k9 kk9
                refine hK.out _ _ ⟨e5, e6⟩ (fun hHeld => ?_)
                clear hK K
                try simp only [Act.put, List.getElem_toArray, List.getElem_cons_succ, List.getElem_cons_zero, List.setIfInBounds_toArray, List.set_cons_zero, List.set_cons_succ]
                refine wpAnyH_take (i := 14) (v := ?_) rfl (by kernel_rfl) (by kernel_rfl) (by kernel_rfl) (fun _ _ _ h => h) (Or.inl ⟨by rfl, ?_⟩) hHeld ?_
                rotate_left
                · intro wq hSw
                  go_simp
                  all_goals with_reducible rfl
                try simp only [Act.put, List.getElem_toArray, List.getElem_cons_succ, List.getElem_cons_zero, List.setIfInBounds_toArray, List.set_cons_zero, List.set_cons_succ]
                refine wpAnyH_take (i := 15) (v := ?_) rfl (by kernel_rfl) (by kernel_rfl) (by kernel_rfl) (fun _ _ _ h => h) (Or.inl ⟨by rfl, ?_⟩) hHeld ?_
                rotate_left
                · intro wq hSw
                  go_simp
                  all_goals with_reducible rfl
                try simp only [Act.put, List.getElem_toArray, List.getElem_cons_succ, List.getElem_cons_zero, List.setIfInBounds_toArray, List.set_cons_zero, List.set_cons_succ]
                refine wpAnyH_take (i := 16) (v := ?_) rfl (by kernel_rfl) (by kernel_rfl) (by kernel_rfl) (fun _ _ _ h => h) (Or.inl ⟨by rfl, ?_⟩) hHeld ?_
                rotate_left
                · intro wq hSw
                  go_simp
                  all_goals with_reducible rfl
                try simp only [Act.put, List.getElem_toArray, List.getElem_cons_succ, List.getElem_cons_zero, List.setIfInBounds_toArray, List.set_cons_zero, List.set_cons_succ]
                refine wpAnyH_take (i := 17) (v := ?_) rfl (by kernel_rfl) (by kernel_rfl) (by kernel_rfl) (fun _ _ _ h => h) (Or.inl ⟨by rfl, ?_⟩) hHeld ?_
                rotate_left
                · intro wq hSw
                  go_simp
                  all_goals with_reducible rfl
                try simp only [Act.put, List.getElem_toArray, List.getElem_cons_succ, List.getElem_cons_zero, List.setIfInBounds_toArray, List.set_cons_zero, List.set_cons_succ]
                refine wpAnyH_done (by kernel_rfl) ?_ _
                refine NoPanic.normal ?_
                clear hHeld
                clear e5 e6
                go_wp2_with fail
                go_roundw
                case rel => exact ⟨m + 1, A9, c9, by omega, by go_num, rfl, B9.out, K9.out⟩
                case measure => simp [intOf]; omega
              · obtain rfl : p = m := by omega
                have hz := form_clears sX.out hlt
                rw [E1.out.1, E1.out.2] at hz
                have HZ : Hid (decide (vLead k1 (clearTo k1 R (X.getD i []) p) < 0) = true) := by
                  show _ = _
                  rw [vLead, (vLeadTo_none _ _).2 fun j _ => hz j]; rfl
                have HBZ := Lib.hid hbz
                have HKZ := Lib.hid hkz
                clear hz hbz hkz
                go_wp2_with fail
                refine (vzero_any _ k1 c _ _ _ HBZ.out (Nat.le_refl _) (by omega)).mono ?_
                rw [HZ.out]
                rintro e w9 ⟨rfl, k9⟩
                have K9 := Lib.hid (HKZ.out.trans k9)
                clear k9
                go_wp2_with fail
                go_roundw
                case rel => exact ⟨i + 1, by omega, by go_num, K9.out⟩
                case measure => simp [intOf]; omega
        · obtain rfl : k0 = i := by omega
          have S3 := Lib.hid (S2.out.later hk)
          clear hk S2
          go_wp2_with fail
          simp only [d5]
          have HM3 := (S3.out.get 0 rfl)
          have HD3 := HM3.drop (k := kk)
          have HT3 := HM3.take (k := kk) (by omega)
          have hcc : k0 ≤ c3 := by obtain ⟨_, _, _, e⟩ := HM3; exact e
          have g1 : (0 : Int) ≤ (kk : Int) := Int.natCast_nonneg _
          have g2 : (kk : Int) ≤ (c3 : Int) := by omega
          have g6 : (kk : Int) ≤ (k0 : Int) := by omega
          have hdrop : ∀ w, (Instr.slice 22 (.slice A3 k0 c3) (some (.int .i64 (kk : Int))) none none).run Try.prog w = .ok (.slice (dropA A3 c3 kk) (k0 - kk) (c3 - kk)) w := fun w => run_drop (t := 22) (by kernel_rfl) infoRow k0 c3 kk _ (by omega) w
          have HDT := Lib.hid (And.intro HD3 (And.intro HT3 hcc))
          obtain ⟨TU, hTU⟩ : ∃ M, X.drop kk ++ X.take kk = M := ⟨_, rfl⟩
          have hf1 := form_turned sX.out kk
          rw [hTU, E1.out.1] at hf1
          have sTU : Hid (Sz k0 k1 TU) := hf1.1
          obtain ⟨TW, hTW⟩ : ∃ M, X ++ [X.getD kk []] = M := ⟨_, rfl⟩
          have hf2 := form_twice sX.out hkl
          rw [hTW, E1.out.1] at hf2
          have sTW : Hid (Sz (k0 + 1) k1 TW) := hf2.1
          have E3 := Lib.hid (And.intro hTU (And.intro hf1.2 (And.intro hTW hf2.2)))
          clear HM3 HD3 HT3 hTU hf1 hTW hf2
          refine wp_region_noPanic ?_
          refine wp_region_held_drew (S := fun wz => True) (by kernel_rfl) trivial (fun hHeld => ?_)
          refine wpAnyH_take (i := 0) (v := ?_) rfl (by kernel_rfl) (by kernel_rfl) (by kernel_rfl) (fun _ _ _ h => h) (Or.inl ⟨by rfl, ?_⟩) hHeld ?_
          rotate_left
          · intro wq hSw
            go_simp
            all_goals with_reducible rfl
          try simp only [Act.put, List.getElem_toArray, List.getElem_cons_succ, List.getElem_cons_zero, List.setIfInBounds_toArray, List.set_cons_zero, List.set_cons_succ]
          refine wpAnyH_take (i := 1) (v := ?_) rfl (by kernel_rfl) (by kernel_rfl) (by kernel_rfl) (fun _ _ _ h => h) (Or.inl ⟨by rfl, ?_⟩) hHeld ?_
          rotate_left
          · intro wq hSw
            go_simp
            all_goals with_reducible rfl
          try simp only [Act.put, List.getElem_toArray, List.getElem_cons_succ, List.getElem_cons_zero, List.setIfInBounds_toArray, List.set_cons_zero, List.set_cons_succ]
          refine wpAnyH_take (i := 2) (v := ?_) rfl (by kernel_rfl) (by kernel_rfl) (by kernel_rfl) (fun _ _ _ h => h) (Or.inl ⟨by rfl, ?_⟩) hHeld ?_
          rotate_left
          · intro wq hSw
            go_simp
            all_goals with_reducible rfl
          try simp only [Act.put, List.getElem_toArray, List.getElem_cons_succ, List.getElem_cons_zero, List.setIfInBounds_toArray, List.set_cons_zero, List.set_cons_succ]
          refine wpAnyH_take (i := 4) (v := ?_) rfl (by kernel_rfl) (by kernel_rfl) (by kernel_rfl) (fun _ _ _ h => h) (Or.inl ⟨by rfl, ?_⟩) hHeld ?_
          rotate_left
          · intro wq hSw
            go_simp
            all_goals with_reducible rfl
          try simp only [Act.put, List.getElem_toArray, List.getElem_cons_succ, List.getElem_cons_zero, List.setIfInBounds_toArray, List.set_cons_zero, List.set_cons_succ]
          refine wpAnyH_take (i := 5) (v := ?_) rfl (by kernel_rfl) (by kernel_rfl) (by kernel_rfl) (fun _ _ _ h => h) (Or.inl ⟨by rfl, ?_⟩) hHeld ?_
          rotate_left
          · intro wq hSw
            go_simp
            all_goals with_reducible rfl
          try simp only [Act.put, List.getElem_toArray, List.getElem_cons_succ, List.getElem_cons_zero, List.setIfInBounds_toArray, List.set_cons_zero, List.set_cons_succ]
          refine wpAnyH_take (i := 6) (v := ?_) rfl (by kernel_rfl) (by kernel_rfl) (by kernel_rfl) (fun _ _ _ h => h) (Or.inl ⟨by rfl, ?_⟩) hHeld ?_
          rotate_left
          · intro wq hSw
            go_simp
            all_goals with_reducible rfl
          try simp only [Act.put, List.getElem_toArray, List.getElem_cons_succ, List.getElem_cons_zero, List.setIfInBounds_toArray, List.set_cons_zero, List.set_cons_succ]
          refine wpAnyH_ready (rs := [3]) (by kernel_rfl) (by simp) ?_
          refine AllReadyH.cons rfl (fun K hK => ?_) AllReadyH.nil
          refine wp_append_lay (W := wr.drew) _ _ 22 rfl Try.underlying22 rfl (Lay.nothing wr.drew) rfl (HDT.out.1.keep (Keep.drew (Keep.refl _))) (k0 - kk) (Nat.zero_add _) (by omega) ?_
          intro A6 c6 w6 rs6 h6 x6
          have H6 := Lib.hid h6
          have X6 := Lib.hid x6
          clear h6 x6
          refine hK.out _ _ trivial (fun hHeld => ?_)
          clear hK K
          try simp only [Act.put, List.getElem_toArray, List.getElem_cons_succ, List.getElem_cons_zero, List.setIfInBounds_toArray, List.set_cons_zero, List.set_cons_succ]
          refine wpAnyH_ready (rs := [7]) (by kernel_rfl) (by simp) ?_
          refine AllReadyH.cons rfl (fun K hK => ?_) AllReadyH.nil
          refine wp_append_lay (W := wr.drew) _ _ 22 rfl Try.underlying22 rfl H6.out rfl (HDT.out.2.1.keep (Keep.drew (Keep.refl _))) k0 (by omega) (by omega) ?_
          intro A7 c7 w7 rs7 h7 x7
          have hm7 := h7.mat
          rw [x7, X6.out] at hm7
          have hm7 : Mat w7 ⟨A7, k0, c7, TU⟩ := by rw [← E3.out.1]; exact hm7
          have S4 : Hid (Sr w0 w7 [⟨A3, k0, c3, X⟩, ⟨A4, p, c4, R⟩, ⟨A7, k0, c7, TU⟩] []) := (S3.out.later ((Keep.drew (Keep.refl _)).trans h7.keep)).more hm7 (Keep.refl _)
          clear h7 x7 hm7 H6 X6
          refine hK.out _ _ trivial (fun hHeld => ?_)
          clear hK K
          try simp only [Act.put, List.getElem_toArray, List.getElem_cons_succ, List.getElem_cons_zero, List.setIfInBounds_toArray, List.set_cons_zero, List.set_cons_succ]
          refine wpAnyH_take (i := 8) (v := ?_) rfl (by kernel_rfl) (by kernel_rfl) (by kernel_rfl) (fun _ _ _ h => h) (Or.inl ⟨by rfl, ?_⟩) hHeld ?_
          rotate_left
          · intro wq hSw
            go_simp
            all_goals with_reducible rfl
          try simp only [Act.put, List.getElem_toArray, List.getElem_cons_succ, List.getElem_cons_zero, List.setIfInBounds_toArray, List.set_cons_zero, List.set_cons_succ]
          refine wpAnyH_done (by kernel_rfl) ?_ _
          refine NoPanic.normal ?_
          clear hHeld
          clear S3 hdrop
          go_upto_region 31 with fail
          obtain ⟨b, off, Ay, cy, rfl, hb, hc, hby, hyc, hly⟩ := (S4.out.get 0 rfl).row_at sX.out hkl
          have e2 : (kk : Int) < (k0 : Int) := by omega
          have HBY := Lib.hid (And.intro hby hly)
          clear hby hly
          go_cut [23] (fun tv wx => ∃ (A : Option Addr) (c : Nat), tv = .slice A (k0 + 1) c ∧ Mat wx ⟨A, k0 + 1, c, TW⟩ ∧ Keep w7 wx)
          case first => as_aux_lemma =>
              refine wp_region_noPanic ?_
              refine wp_region_held_drew (S := fun wz => wz.cell? ⟨b, off + kk, none⟩ = some (.slice Ay k1 cy)) (by kernel_rfl) hc (fun hHeld => ?_)
              refine wpAnyH_take (i := 0) (v := ?_) rfl (by kernel_rfl) (by kernel_rfl) (by kernel_rfl) (fun _ _ _ h => h) (Or.inl ⟨by rfl, ?_⟩) hHeld ?_
              rotate_left
              · intro wq hSw
                go_simp
                all_goals with_reducible rfl
              try simp only [Act.put, List.getElem_toArray, List.getElem_cons_succ, List.getElem_cons_zero, List.setIfInBounds_toArray, List.set_cons_zero, List.set_cons_succ]
              refine wpAnyH_take (i := 2) (v := ?_) rfl (by kernel_rfl) (by kernel_rfl) (by kernel_rfl) (fun _ _ _ h => h) (Or.inl ⟨by rfl, ?_⟩) hHeld ?_
              rotate_left
              · intro wq hSw
                go_simp
                all_goals with_reducible rfl
              try simp only [Act.put, List.getElem_toArray, List.getElem_cons_succ, List.getElem_cons_zero, List.setIfInBounds_toArray, List.set_cons_zero, List.set_cons_succ]
              refine wpAnyH_take (i := 3) (v := ?_) rfl (by kernel_rfl) (by kernel_rfl) (by kernel_rfl) (fun _ _ _ h => h) (Or.inl ⟨by rfl, ?_⟩) hHeld ?_
              rotate_left
              · intro wq hSw
                go_simp
                all_goals with_reducible rfl
              try simp only [Act.put, List.getElem_toArray, List.getElem_cons_succ, List.getElem_cons_zero, List.setIfInBounds_toArray, List.set_cons_zero, List.set_cons_succ]
              refine wpAnyH_take (i := 4) (v := ?_) rfl (by kernel_rfl) (by kernel_rfl) (by kernel_rfl) (fun _ _ _ h => h) (Or.inl ⟨by rfl, ?_⟩) hHeld ?_
              rotate_left
              · intro wq hSw
                go_simp
                all_goals with_reducible rfl
              try simp only [Act.put, List.getElem_toArray, List.getElem_cons_succ, List.getElem_cons_zero, List.setIfInBounds_toArray, List.set_cons_zero, List.set_cons_succ]
              refine wpAnyH_take (i := 5) (v := ?_) rfl (by kernel_rfl) (by kernel_rfl) (by kernel_rfl) (fun _ _ _ h => h) (Or.inl ⟨by rfl, ?_⟩) hHeld ?_
              rotate_left
              · intro wq hSw
                have q0 := hSw
                go_simp
                all_goals with_reducible rfl
              try simp only [Act.put, List.getElem_toArray, List.getElem_cons_succ, List.getElem_cons_zero, List.setIfInBounds_toArray, List.set_cons_zero, List.set_cons_succ]
              refine wpAnyH_ready (rs := [1, 6]) (by kernel_rfl) (by simp) ?_
              refine AllReadyH.cons rfl (fun K hK => ?_) (AllReadyH.cons rfl (fun K hK => ?_) AllReadyH.nil)
              · refine wp_append_lay (W := w7.drew) _ _ 22 rfl Try.underlying22 rfl (Lay.nothing w7.drew) rfl ((S4.out.get 0 rfl).keep (Keep.drew (Keep.refl _))) k0 (Nat.zero_add _) (by omega) ?_
                intro A8 c8 w8 rs8 h8 x8
                have hc8 := (h8.keep.cell (p := ⟨b, off + kk, none⟩) hb).trans hc
                have H8 := Lib.hid h8
                have X8 := Lib.hid x8
                clear h8 x8
                refine hK.out _ _ hc8 (fun hHeld => ?_)
                clear hK K
                try simp only [Act.put, List.getElem_toArray, List.getElem_cons_succ, List.getElem_cons_zero, List.setIfInBounds_toArray, List.set_cons_zero, List.set_cons_succ]
                refine wpAnyH_ready (rs := [6]) (by kernel_rfl) (by simp) ?_
                refine AllReadyH.cons rfl (fun K hK => ?_) AllReadyH.nil
                go_simp
                have k9 : Keep w8 (w8.alloc (.cells #[.slice Ay k1 cy] 26)) := (Keep.refl w8).obj _
                have hc9 := (k9.cell (p := ⟨b, off + kk, none⟩) (World.block_lt_of_cell? _ _ hc8)).trans hc8
                have H9 := Lib.hid (H8.out.later k9)
                refine hK.out _ _ hc9 (fun hHeld => ?_)
                clear hK K k9
                try simp only [Act.put, List.getElem_toArray, List.getElem_cons_succ, List.getElem_cons_zero, List.setIfInBounds_toArray, List.set_cons_zero, List.set_cons_succ]
                refine wpAnyH_ready (rs := [7]) (by kernel_rfl) (by simp) ?_
                refine AllReadyH.cons rfl (fun K hK => ?_) AllReadyH.nil
                refine wp_append_layrow_at _ _ 22 rfl ⟨Ay, k1, cy, X.getD kk []⟩ Try.underlying22 rfl H9.out (H9.out.old (HBY.out.2.turned (Turned.of_keep (F := fun _ => False) (Keep.drew (Keep.refl _))) fun _ _ e => e)) rfl (by rw [World.cell?_alloc_new]; rfl) (by omega) ?_
                intro A9 c9 w9 h9
                have hm9 := h9.mat
                have hm9 : Mat w9 ⟨A9, k0 + 1, c9, TW⟩ := by
                  have e : rowsXs (rs8 ++ [⟨Ay, k1, cy, X.getD kk []⟩]) = TW := by rw [← E3.out.2.2.1, rowsXs, List.map_append, ← rowsXs, X8.out]; rfl
                  rw [e] at hm9; exact hm9
                have hk9 : Keep w7 w9 := (Keep.drew (Keep.refl w7)).trans h9.keep
                have hca := (hk9.cell (p := ⟨b, off + kk, none⟩) hb).trans hc
                have HM9 := Lib.hid (And.intro hm9 hk9)
                clear h9 hm9 H8 X8 H9 hk9
                refine hK.out _ _ hca (fun hHeld => ?_)
                clear hK K
                try simp only [Act.put, List.getElem_toArray, List.getElem_cons_succ, List.getElem_cons_zero, List.setIfInBounds_toArray, List.set_cons_zero, List.set_cons_succ]
                refine wpAnyH_take (i := 8) (v := ?_) rfl (by kernel_rfl) (by kernel_rfl) (by kernel_rfl) (fun _ _ _ h => h) (Or.inl ⟨by rfl, ?_⟩) hHeld ?_
                rotate_left
                · intro wq hSw
                  go_simp
                  all_goals with_reducible rfl
                try simp only [Act.put, List.getElem_toArray, List.getElem_cons_succ, List.getElem_cons_zero, List.setIfInBounds_toArray, List.set_cons_zero, List.set_cons_succ]
                refine wpAnyH_done (by kernel_rfl) ?_ _
                refine NoPanic.normal ?_
                clear hHeld
                go_wp2_with fail
                go_meet
                case rel => exact ⟨A9, c9, rfl, HM9.out.1, HM9.out.2⟩
              · go_simp
                have k8 : Keep w7 (w7.alloc (.cells #[.slice Ay k1 cy] 26)).drew := Keep.drew ((Keep.refl w7).obj _)
                have hc8 := (k8.cell (p := ⟨b, off + kk, none⟩) hb).trans hc
                have hn8 : (w7.alloc (.cells #[.slice Ay k1 cy] 26)).drew.cell? ⟨w7.heap.size, 0, none⟩ = some (.slice Ay k1 cy) := by
                  simp
                refine hK.out _ _ hc8 (fun hHeld => ?_)
                clear hK K
                have K8 := Lib.hid k8
                have HZ8 : Hid (w7.heap.size < (w7.alloc (.cells #[.slice Ay k1 cy] 26)).drew.heap.size) := by show _ < (w7.alloc (.cells #[.slice Ay k1 cy] 26)).heap.size; rw [size_obj]; exact Nat.lt_succ_self _
                clear k8
                generalize (w7.alloc (.cells #[.slice Ay k1 cy] 26)).drew = wl at *
                try simp only [Act.put, List.getElem_toArray, List.getElem_cons_succ, List.getElem_cons_zero, List.setIfInBounds_toArray, List.set_cons_zero, List.set_cons_succ]
                refine wpAnyH_ready (rs := [1]) (by kernel_rfl) (by simp) ?_
                refine AllReadyH.cons rfl (fun K hK => ?_) AllReadyH.nil
                refine wp_append_lay (W := wl) _ _ 22 rfl Try.underlying22 rfl (Lay.nothing wl) rfl ((S4.out.get 0 rfl).keep K8.out) k0 (Nat.zero_add _) (by omega) ?_
                intro A8 c8 w8 rs8 h8 x8
                have hc9 := (h8.keep.cell (p := ⟨b, off + kk, none⟩) (World.block_lt_of_cell? _ _ hc8)).trans hc8
                have hn9 := (h8.keep.cell (p := ⟨w7.heap.size, 0, none⟩) HZ8.out).trans hn8
                have H9 := Lib.hid h8
                have H8 := Lib.hid h8
                have X8 := Lib.hid x8
                clear h8 x8
                refine hK.out _ _ hc9 (fun hHeld => ?_)
                clear hK K
                try simp only [Act.put, List.getElem_toArray, List.getElem_cons_succ, List.getElem_cons_zero, List.setIfInBounds_toArray, List.set_cons_zero, List.set_cons_succ]
                refine wpAnyH_ready (rs := [7]) (by kernel_rfl) (by simp) ?_
                refine AllReadyH.cons rfl (fun K hK => ?_) AllReadyH.nil
                refine wp_append_layrow_at _ _ 22 rfl ⟨Ay, k1, cy, X.getD kk []⟩ Try.underlying22 rfl H9.out (H9.out.old ((HBY.out.2.turned (Turned.of_keep (F := fun _ => False) K8.out) fun _ _ e => e).mono fun b hb => Nat.lt_of_lt_of_le hb K8.out.size)) rfl hn9 (by omega) ?_
                intro A9 c9 w9 h9
                have hm9 := h9.mat
                have hm9 : Mat w9 ⟨A9, k0 + 1, c9, TW⟩ := by
                  have e : rowsXs (rs8 ++ [⟨Ay, k1, cy, X.getD kk []⟩]) = TW := by rw [← E3.out.2.2.1, rowsXs, List.map_append, ← rowsXs, X8.out]; rfl
                  rw [e] at hm9; exact hm9
                have hk9 : Keep w7 w9 := K8.out.trans h9.keep
                have hca := (hk9.cell (p := ⟨b, off + kk, none⟩) hb).trans hc
                have HM9 := Lib.hid (And.intro hm9 hk9)
                clear h9 hm9 H8 X8 H9 hk9
                refine hK.out _ _ hca (fun hHeld => ?_)
                clear hK K
                try simp only [Act.put, List.getElem_toArray, List.getElem_cons_succ, List.getElem_cons_zero, List.setIfInBounds_toArray, List.set_cons_zero, List.set_cons_succ]
                refine wpAnyH_take (i := 8) (v := ?_) rfl (by kernel_rfl) (by kernel_rfl) (by kernel_rfl) (fun _ _ _ h => h) (Or.inl ⟨by rfl, ?_⟩) hHeld ?_
                rotate_left
                · intro wq hSw
                  go_simp
                  all_goals with_reducible rfl
                try simp only [Act.put, List.getElem_toArray, List.getElem_cons_succ, List.getElem_cons_zero, List.setIfInBounds_toArray, List.set_cons_zero, List.set_cons_succ]
                refine wpAnyH_done (by kernel_rfl) ?_ _
                refine NoPanic.normal ?_
                clear hHeld
                go_wp2_with fail
                go_meet
                case rel => exact ⟨A9, c9, rfl, HM9.out.1, HM9.out.2⟩
          case rest =>
            obtain ⟨A9, c9, rfl, hm9, hk9⟩ := hcut
            obtain ⟨wd, rfl⟩ : ∃ wd, wd = wc := ⟨_, rfl⟩
            have S5 : Hid (Sr w0 wd [⟨some ⟨b, off, none⟩, k0, c3, X⟩, ⟨A4, p, c4, R⟩, ⟨A7, k0, c7, TU⟩, ⟨A9, k0 + 1, c9, TW⟩] []) := (S4.out.later hk9).more hm9 (Keep.refl _)
            clear hm9 hk9 S4 hc HBY
            go_wp2_with (at_builtin; refine wpList_append_lay rfl _ _ 22 rfl Try.underlying22 rfl (Lay.nothing wd) rfl (S5.out.get 0 rfl) k0 (Nat.zero_add k0) (by omega) ?_)
            intro AA ca wa rsa ha xa
            have LA : Hid (Lay wd wa AA k0 ca rsa) := ha
            have XA : Hid (rowsXs rsa = X) := xa
            clear ha xa
            obtain ⟨kj, hkj⟩ : ∃ k, kk + 1 = k := ⟨_, rfl⟩
            obtain ⟨n2, hn2⟩ : ∃ k, kj % k0 = k := ⟨_, rfl⟩
            have d6 : (kk : Int) + 1 = (kj : Int) := by omega
            have d7 : (kj : Int) % (k0 : Int) = (n2 : Int) := by rw [← hn2]; simp
            have hnl : n2 < k0 := by rw [← hn2]; exact Nat.mod_lt _ (by omega)
            obtain ⟨Y1, hY1⟩ : ∃ Y, (if 1 < k0 then X.set kk (vAddS k1 (X.getD kk []) (X.getD n2 []) x) else X) = Y := ⟨_, rfl⟩
            have hs1 : Sz k0 k1 Y1 ∧ SameSpan Y1 X := by
              rw [← hY1]
              by_cases h : 1 < k0
              · rw [if_pos h]
                have hne : kk ≠ n2 := fun e => by
                  rw [← hkj] at hn2
                  rcases Nat.lt_or_ge (kk + 1) k0 with h3 | h3
                  · rw [Nat.mod_eq_of_lt h3] at hn2; omega
                  · rw [show kk + 1 = k0 by omega, Nat.mod_self] at hn2; omega
                exact form_added sX.out hkl hnl hne b3
              · rw [if_neg h]; exact ⟨sX.out, SameSpan.refl X⟩
            obtain ⟨Y2, hY2⟩ : ∃ Y, (if x ≠ 0 then Y1.set 0 (vScale k1 (Y1.getD 0 []) x) else Y1) = Y := ⟨_, rfl⟩
            have hs2 : Sz k0 k1 Y2 ∧ SameSpan Y2 X := by
              rw [← hY2]
              by_cases h : x ≠ 0
              · rw [if_pos h]
                have := form_scaled hs1.1 p0 b3 h
                exact ⟨this.1, this.2.trans hs1.2⟩
              · rw [if_neg h]; exact hs1
            have hr2 := reduce_same hs2.1 sX.out hs2.2
            rw [E1.out.1] at hr2
            have sY1 : Hid (Sz k0 k1 Y1) := hs1.1
            have sY2 : Hid (Sz k0 k1 Y2) := hs2.1
            have E4 := Lib.hid (And.intro hr2 (And.intro hY1 hY2))
            have HNL := Lib.hid (And.intro hkj hn2)
            have hmod : (kj : Int).tmod (k0 : Int) = (n2 : Int) := by rw [Int.tmod_eq_emod_of_nonneg (Int.natCast_nonneg _)]; exact d7
            have HMOD : Hid (¬ k0 = 0 ∧ IntKind.i64.wrap (kj : Int) = (kj : Int) ∧ (kj : Int).tmod (k0 : Int) = (n2 : Int)) := ⟨by omega, IntWalk.i64_in _ (by omega), hmod⟩
            clear hmod
            clear hkj hn2 hY1 hs1 hY2 hs2 hr2
            go_upto_if 162 with fail
            go_cut [24] (fun av wx => av = .slice AA k0 ca ∧ ∃ rs, Lay wd wx AA k0 ca rs ∧ rowsXs rs = Y1)
            case first =>
              by_cases h1k : 1 < k0
              · as_aux_lemma =>
                  have e7 : (1 : Int) < (k0 : Int) := by omega
                  obtain ⟨b1, o1, Ay1, cy1, hA1, hb1, hc1, hby1, _, _⟩ := (S5.out.get 0 rfl).row_at sX.out hkl
                  obtain ⟨b2, o2, Ay2, cy2, hA2, hb2, hc2, hby2, _, _⟩ := (S5.out.get 0 rfl).row_at sX.out hnl
                  cases hA1
                  cases hA2
                  obtain ⟨g, rg, rfl, hg, hgl, hrg, hcg, hfg, _⟩ := LA.out.row_at hkl
                  have hc1 := (LA.out.keep.cell (p := ⟨b, off + kk, none⟩) hb1).trans hc1
                  have hc2 := (LA.out.keep.cell (p := ⟨b, off + n2, none⟩) hb1).trans hc2
                  have B1 := Lib.hid (hby1.keep (Nat.le_refl _) LA.out.keep)
                  have B2 := Lib.hid (hby2.keep (Nat.le_refl _) LA.out.keep)
                  have BG : Hid (b < g ∧ wd.heap.size ≤ wa.heap.size ∧ b < wa.heap.size) := ⟨by omega, LA.out.keep.size, by have := LA.out.keep.size; omega⟩
                  have HCG := Lib.hid (And.intro hcg hfg)
                  have e8 : (kk : Int) < (k0 : Int) := by omega
                  have e9 : (n2 : Int) < (k0 : Int) := by omega
                  have e9' : (0 : Int) ≤ (n2 : Int) := Int.natCast_nonneg _
                  have V1 : Hid (Y1 = X.set kk (vAddS k1 (X.getD kk []) (X.getD n2 []) x)) := by show _ = _; rw [← E4.out.2.1, if_pos h1k]
                  clear hby1 hby2 hcg hfg hrg h1k hg hgl
                  go_wp2_with fail
                  refine wp_region_noPanic ?_
                  refine wp_region_held_drew (S := fun wz => wz.cell? ⟨b, off + kk, none⟩ = some (.slice Ay1 k1 cy1) ∧ wz.cell? ⟨b, off + n2, none⟩ = some (.slice Ay2 k1 cy2)) (by kernel_rfl) ⟨hc1, hc2⟩ (fun hHeld => ?_)
                  refine wpAnyH_take (i := 0) (v := ?_) rfl (by kernel_rfl) (by kernel_rfl) (by kernel_rfl) (fun _ _ _ h => h) (Or.inl ⟨by rfl, ?_⟩) hHeld ?_
                  rotate_left
                  · intro wq hSw
                    go_simp
                    all_goals with_reducible rfl
                  try simp only [Act.put, List.getElem_toArray, List.getElem_cons_succ, List.getElem_cons_zero, List.setIfInBounds_toArray, List.set_cons_zero, List.set_cons_succ]
                  refine wpAnyH_take (i := 1) (v := ?_) rfl (by kernel_rfl) (by kernel_rfl) (by kernel_rfl) (fun _ _ _ h => h) (Or.inl ⟨by rfl, ?_⟩) hHeld ?_
                  rotate_left
                  · intro wq hSw
                    go_simp
                    all_goals with_reducible rfl
                  try simp only [Act.put, List.getElem_toArray, List.getElem_cons_succ, List.getElem_cons_zero, List.setIfInBounds_toArray, List.set_cons_zero, List.set_cons_succ]
                  refine wpAnyH_take (i := 2) (v := ?_) rfl (by kernel_rfl) (by kernel_rfl) (by kernel_rfl) (fun _ _ _ h => h) (Or.inl ⟨by rfl, ?_⟩) hHeld ?_
                  rotate_left
                  · intro wq hSw
                    go_simp
                    all_goals with_reducible rfl
                  try simp only [Act.put, List.getElem_toArray, List.getElem_cons_succ, List.getElem_cons_zero, List.setIfInBounds_toArray, List.set_cons_zero, List.set_cons_succ]
                  refine wpAnyH_take (i := 3) (v := ?_) rfl (by kernel_rfl) (by kernel_rfl) (by kernel_rfl) (fun _ _ _ h => h) (Or.inl ⟨by rfl, ?_⟩) hHeld ?_
                  rotate_left
                  · intro wq hSw
                    go_simp
                    all_goals with_reducible rfl
                  try simp only [Act.put, List.getElem_toArray, List.getElem_cons_succ, List.getElem_cons_zero, List.setIfInBounds_toArray, List.set_cons_zero, List.set_cons_succ]
                  refine wpAnyH_take (i := 4) (v := ?_) rfl (by kernel_rfl) (by kernel_rfl) (by kernel_rfl) (fun _ _ _ h => h) (Or.inl ⟨by rfl, ?_⟩) hHeld ?_
                  rotate_left
                  · intro wq hSw
                    go_simp
                    all_goals with_reducible rfl
                  try simp only [Act.put, List.getElem_toArray, List.getElem_cons_succ, List.getElem_cons_zero, List.setIfInBounds_toArray, List.set_cons_zero, List.set_cons_succ]
                  refine wpAnyH_take (i := 5) (v := ?_) rfl (by kernel_rfl) (by kernel_rfl) (by kernel_rfl) (fun _ _ _ h => h) (Or.inl ⟨by rfl, ?_⟩) hHeld ?_
                  rotate_left
                  · intro wq hSw
                    have q0 := hSw.1
                    go_simp
                    all_goals with_reducible rfl
                  try simp only [Act.put, List.getElem_toArray, List.getElem_cons_succ, List.getElem_cons_zero, List.setIfInBounds_toArray, List.set_cons_zero, List.set_cons_succ]
                  refine wpAnyH_take (i := 6) (v := ?_) rfl (by kernel_rfl) (by kernel_rfl) (by kernel_rfl) (fun _ _ _ h => h) (Or.inl ⟨by rfl, ?_⟩) hHeld ?_
                  rotate_left
                  · intro wq hSw
                    go_simp
                    all_goals with_reducible rfl
                  try simp only [Act.put, List.getElem_toArray, List.getElem_cons_succ, List.getElem_cons_zero, List.setIfInBounds_toArray, List.set_cons_zero, List.set_cons_succ]
                  refine wpAnyH_take (i := 7) (v := ?_) rfl (by kernel_rfl) (by kernel_rfl) (by kernel_rfl) (fun _ _ _ h => h) (Or.inl ⟨by rfl, ?_⟩) hHeld ?_
                  rotate_left
                  · intro wq hSw
                    go_simp
                    all_goals with_reducible rfl
                  try simp only [Act.put, List.getElem_toArray, List.getElem_cons_succ, List.getElem_cons_zero, List.setIfInBounds_toArray, List.set_cons_zero, List.set_cons_succ]
                  refine wpAnyH_take (i := 8) (v := ?_) rfl (by kernel_rfl) (by kernel_rfl) (by kernel_rfl) (fun _ _ _ h => h) (Or.inl ⟨by rfl, ?_⟩) hHeld ?_
                  rotate_left
                  · intro wq hSw
                    have q0 := HMOD.out.2.1
                    go_simp
                    all_goals with_reducible rfl
                  try simp only [Act.put, List.getElem_toArray, List.getElem_cons_succ, List.getElem_cons_zero, List.setIfInBounds_toArray, List.set_cons_zero, List.set_cons_succ]
                  refine wpAnyH_take (i := 9) (v := ?_) rfl (by kernel_rfl) (by kernel_rfl) (by kernel_rfl) (fun _ _ _ h => h) (Or.inl ⟨by rfl, ?_⟩) hHeld ?_
                  rotate_left
                  · intro wq hSw
                    go_simp
                    all_goals with_reducible rfl
                  try simp only [Act.put, List.getElem_toArray, List.getElem_cons_succ, List.getElem_cons_zero, List.setIfInBounds_toArray, List.set_cons_zero, List.set_cons_succ]
                  refine wpAnyH_take (i := 10) (v := ?_) rfl (by kernel_rfl) (by kernel_rfl) (by kernel_rfl) (fun _ _ _ h => h) (Or.inl ⟨by rfl, ?_⟩) hHeld ?_
                  rotate_left
                  · intro wq hSw
                    have q0 := HMOD.out.1
                    have q1 := HMOD.out.2.2
                    go_simp
                    all_goals with_reducible rfl
                  try simp only [Act.put, List.getElem_toArray, List.getElem_cons_succ, List.getElem_cons_zero, List.setIfInBounds_toArray, List.set_cons_zero, List.set_cons_succ]
                  refine wpAnyH_take (i := 11) (v := ?_) rfl (by kernel_rfl) (by kernel_rfl) (by kernel_rfl) (fun _ _ _ h => h) (Or.inl ⟨by rfl, ?_⟩) hHeld ?_
                  rotate_left
                  · intro wq hSw
                    go_simp
                    all_goals with_reducible rfl
                  try simp only [Act.put, List.getElem_toArray, List.getElem_cons_succ, List.getElem_cons_zero, List.setIfInBounds_toArray, List.set_cons_zero, List.set_cons_succ]
                  refine wpAnyH_take (i := 12) (v := ?_) rfl (by kernel_rfl) (by kernel_rfl) (by kernel_rfl) (fun _ _ _ h => h) (Or.inl ⟨by rfl, ?_⟩) hHeld ?_
                  rotate_left
                  · intro wq hSw
                    have q0 := hSw.2
                    go_simp
                    all_goals with_reducible rfl
                  try simp only [Act.put, List.getElem_toArray, List.getElem_cons_succ, List.getElem_cons_zero, List.setIfInBounds_toArray, List.set_cons_zero, List.set_cons_succ]
                  refine wpAnyH_take (i := 13) (v := ?_) rfl (by kernel_rfl) (by kernel_rfl) (by kernel_rfl) (fun _ _ _ h => h) (Or.inl ⟨by rfl, ?_⟩) hHeld ?_
                  rotate_left
                  · intro wq hSw
                    go_simp
                    all_goals with_reducible rfl
                  try simp only [Act.put, List.getElem_toArray, List.getElem_cons_succ, List.getElem_cons_zero, List.setIfInBounds_toArray, List.set_cons_zero, List.set_cons_succ]
                  refine wpAnyH_ready (rs := [14]) (by kernel_rfl) (by simp) ?_
                  refine AllReadyH.cons rfl (fun K hK => ?_) AllReadyH.nil
                  go_simp
                  refine (vaddS_any _ _ k1 _ _ x _ _ _ _ wa.drew (B1.out.keep BG.out.2.1 (Keep.drew (Keep.refl _))) (B2.out.keep BG.out.2.1 (Keep.drew (Keep.refl _))) BG.out.2.1 BG.out.2.1 (by omega) b3).mono ?_
                  rintro e w12 ⟨A12, n12, c12, rfl, oo, k12⟩
                  obtain rfl : k1 = n12 := by rw [← oo.length, vAddS, tab_length]
                  have kk12 : Keep wa w12 := (Keep.drew (Keep.refl wa)).trans k12
                  have L12 := LA.out.later kk12
                  have hL13 := L12.stored ⟨A12, k1, c12, vAddS k1 (X.getD kk []) (X.getD n2 []) x⟩ (L12.own oo) kk
                  have L13 : Hid (Lay wd (w12.setCell ⟨g, kk, none⟩ (.slice A12 k1 c12)) (some ⟨g, 0, none⟩) k0 ca (rsa.set kk ⟨A12, k1, c12, vAddS k1 (X.getD kk []) (X.getD n2 []) x⟩) ∧ rowsXs (rsa.set kk ⟨A12, k1, c12, vAddS k1 (X.getD kk []) (X.getD n2 []) x⟩) = Y1) := ⟨hL13, by rw [Lay.xs_set, XA.out, V1.out]⟩
                  obtain ⟨g', rg', hgg, _, _, _, hcg, hfg, _⟩ := L12.row_at hkl
                  cases hgg
                  have e5 := (kk12.cell (p := ⟨b, off + kk, none⟩) BG.out.2.2).trans hc1
                  have e6 := (kk12.cell (p := ⟨b, off + n2, none⟩) BG.out.2.2).trans hc2
                  clear oo k12 kk12 L12 hL13
                  refine hK.out _ _ ⟨e5, e6⟩ (fun hHeld => ?_)
                  clear hK K
                  try simp only [Act.put, List.getElem_toArray, List.getElem_cons_succ, List.getElem_cons_zero, List.setIfInBounds_toArray, List.set_cons_zero, List.set_cons_succ]
                  refine wpAnyH_take (i := 15) (v := ?_) rfl (by kernel_rfl) (by kernel_rfl) (by kernel_rfl) (fun _ _ _ h => h) (Or.inl ⟨by rfl, ?_⟩) hHeld ?_
                  rotate_left
                  · intro wq hSw
                    go_simp
                    all_goals with_reducible rfl
                  try simp only [Act.put, List.getElem_toArray, List.getElem_cons_succ, List.getElem_cons_zero, List.setIfInBounds_toArray, List.set_cons_zero, List.set_cons_succ]
                  refine wpAnyH_take (i := 16) (v := ?_) rfl (by kernel_rfl) (by kernel_rfl) (by kernel_rfl) (fun _ _ _ h => h) (Or.inl ⟨by rfl, ?_⟩) hHeld ?_
                  rotate_left
                  · intro wq hSw
                    go_simp
                    all_goals with_reducible rfl
                  try simp only [Act.put, List.getElem_toArray, List.getElem_cons_succ, List.getElem_cons_zero, List.setIfInBounds_toArray, List.set_cons_zero, List.set_cons_succ]
                  refine wpAnyH_take (i := 17) (v := ?_) rfl (by kernel_rfl) (by kernel_rfl) (by kernel_rfl) (fun _ _ _ h => h) (Or.inl ⟨by rfl, ?_⟩) hHeld ?_
                  rotate_left
                  · intro wq hSw
                    go_simp
                    all_goals with_reducible rfl
                  try simp only [Act.put, List.getElem_toArray, List.getElem_cons_succ, List.getElem_cons_zero, List.setIfInBounds_toArray, List.set_cons_zero, List.set_cons_succ]
                  refine wpAnyH_take (i := 18) (v := ?_) rfl (by kernel_rfl) (by kernel_rfl) (by kernel_rfl) (fun _ _ _ h => h) (Or.inl ⟨by rfl, ?_⟩) hHeld ?_
                  rotate_left
                  · intro wq hSw
                    go_simp
                    all_goals with_reducible rfl
                  try simp only [Act.put, List.getElem_toArray, List.getElem_cons_succ, List.getElem_cons_zero, List.setIfInBounds_toArray, List.set_cons_zero, List.set_cons_succ]
                  refine wpAnyH_ready (rs := [19]) (by kernel_rfl) (by simp) ?_
                  refine AllReadyH.cons rfl (fun K hK => ?_) AllReadyH.nil
                  go_simp
                  refine hK.out _ _ ⟨by rw [World.cell?_setCell_far _ _ _ _ (show g ≠ b by have := BG.out.1; omega)]; exact e5, by rw [World.cell?_setCell_far _ _ _ _ (show g ≠ b by have := BG.out.1; omega)]; exact e6⟩ (fun hHeld => ?_)
                  clear hK K e5 e6 hcg hfg hc1 hc2 HCG
                  try simp only [Act.put, List.getElem_toArray, List.getElem_cons_succ, List.getElem_cons_zero, List.setIfInBounds_toArray, List.set_cons_zero, List.set_cons_succ]
                  refine wpAnyH_done (by kernel_rfl) ?_ _
                  refine NoPanic.normal ?_
                  clear hHeld
                  go_wp2_with fail
                  go_meet
                  case rel => exact ⟨rfl, _, L13.out.1, L13.out.2⟩
              · have e7 : ¬ (1 : Int) < (k0 : Int) := by omega
                have V1 : Hid (Y1 = X) := by show _ = _; rw [← E4.out.2.1, if_neg h1k]
                clear h1k
                go_wp2_with fail
                go_meet
                case rel => exact ⟨rfl, rsa, LA.out, by rw [XA.out, V1.out]⟩
            case rest =>
              obtain ⟨rfl, rs1, hl1, hx1⟩ := hcut
              obtain ⟨we, rfl⟩ : ∃ we, we = wc := ⟨_, rfl⟩
              have L1 := Lib.hid hl1
              have X1 := Lib.hid hx1
              clear hl1 hx1 LA XA
              go_upto_if 183 with fail
              go_cut [24] (fun av wx => av = .slice AA k0 ca ∧ ∃ rs, Lay wd wx AA k0 ca rs ∧ rowsXs rs = Y2)
              case first =>
                by_cases hx0 : x = 0
                · subst hx0
                  have V2 : Hid (Y2 = Y1) := by show _ = _; rw [← E4.out.2.2, if_neg (by simp)]
                  go_wp2_with fail
                  go_meet
                  case rel => exact ⟨rfl, rs1, L1.out, by rw [X1.out, V2.out]⟩
                · obtain ⟨g, rg, rfl, hg, hgl, hrg, hcg, hfg, hbg⟩ := L1.out.row_at (i := 0) (by omega)
                  have hxg : Y1.getD 0 [] = rg.xs := by rw [← X1.out]; exact rowsXs_at hrg
                  have hng : rg.n = k1 := by rw [← hbg.length, ← hxg]; exact (sY1.out.at_ p0).1
                  obtain ⟨Ag, ng, cg, xg⟩ := rg
                  obtain rfl : k1 = ng := hng.symm
                  have hxg : Y1.getD 0 [] = xg := hxg
                  have e7 : ((x : Int) != 0) = true := by rw [bne_iff_ne]; omega
                  have e7' : ¬ (x : Int) = 0 := by omega
                  have e8 : (0 : Int) < (k0 : Int) := by omega
                  have HBG := Lib.hid hbg
                  have V2 : Hid (Y2 = Y1.set 0 (vScale k1 xg x)) := by show _ = _; rw [← E4.out.2.2, if_pos hx0, hxg]
                  clear hbg hxg hng hrg hx0 hg hgl
                  go_wp2_with fail
                  refine (vscale_any _ k1 cg x _ _ _ HBG.out (Nat.le_refl _) (by omega) b3).mono ?_
                  rintro e w14 ⟨A14, n14, c14, rfl, oo, k14⟩
                  obtain rfl : k1 = n14 := by rw [← oo.length, vScale, tab_length]
                  have L14 := L1.out.later k14
                  have hL15 := L14.stored ⟨A14, k1, c14, vScale k1 xg x⟩ (L14.own oo) 0
                  have L15 : Hid (Lay wd (w14.setCell ⟨g, 0, none⟩ (.slice A14 k1 c14)) (some ⟨g, 0, none⟩) k0 ca (rs1.set 0 ⟨A14, k1, c14, vScale k1 xg x⟩) ∧ rowsXs (rs1.set 0 ⟨A14, k1, c14, vScale k1 xg x⟩) = Y2) := ⟨hL15, by rw [Lay.xs_set, X1.out, V2.out]⟩
                  obtain ⟨g', rg', hgg, _, _, _, hcg2, hfg2, _⟩ := L14.row_at (i := 0) (by omega)
                  cases hgg
                  clear oo k14 L14 hL15 hcg hfg
                  go_wp2_with fail
                  go_meet
                  case rel => exact ⟨rfl, _, L15.out.1, L15.out.2⟩
              case rest =>
                obtain ⟨rfl, rs2, hl2, hx2⟩ := hcut
                obtain ⟨wf, rfl⟩ : ∃ wf, wf = wc := ⟨_, rfl⟩
                have hm2 := hl2.mat
                rw [hx2] at hm2
                have S6 : Hid (Sr w0 wf [⟨some ⟨b, off, none⟩, k0, c3, X⟩, ⟨A4, p, c4, R⟩, ⟨A7, k0, c7, TU⟩, ⟨A9, k0 + 1, c9, TW⟩, ⟨AA, k0, ca, Y2⟩] []) := (S5.out.later hl2.keep).more hm2 (Keep.refl _)
                clear hl2 hx2 hm2 L1 X1 S5
                have hx3 := form_own sX.out
                rw [E1.out.1] at hx3
                have HX3 := Lib.hid hx3
                clear hx3
                go_wp2_with fail
                go_loopw [196] (fun kv wz => ∃ m : Nat, m ≤ 4 ∧ kv = .int .i64 m ∧ Keep wf wz) (fun kv _ => 4 - (intOf kv).toNat)
                case atStart => exact ⟨0, by omega, rfl, Keep.refl _⟩
                case round =>
                  obtain ⟨m, hm, rfl, hk⟩ := hrel
                  have S7 := Lib.hid (S6.out.later hk)
                  have HK7 := Lib.hid hk
                  clear S6 hk
                  by_cases hlt : m < 4
                  · as_aux_lemma =>
                      rcases (show m = 0 ∨ m = 1 ∨ m = 2 ∨ m = 3 by omega) with rfl | rfl | rfl | rfl
                      · have hix := fun w => (index_four (.slice A7 k0 c7) (.slice A9 (k0 + 1) c9) (.slice AA k0 ca) (.slice A4 p c4) w).1
                        go_wp2_with fail
                        clear hix
                        refine (reduce_sz0 (S7.out.get 2 rfl) sTU.out (by omega) (by omega)).mono ?_
                        rw [E3.out.2.1]
                        rintro e w8 ⟨A8, n8, c8, rfl, mm, k8⟩
                        have S8 := Lib.hid (S7.out.later k8)
                        have M8 := Lib.hid mm
                        have K8 := Lib.hid (HK7.out.trans k8)
                        clear mm k8 S7 HK7
                        go_wp2_with fail
                        refine (same_szm M8.out (S8.out.get 1 rfl) sR.out (by omega)).mono ?_
                        rintro e w9 ⟨rfl, k9⟩
                        have K9 := Lib.hid (K8.out.trans k9)
                        clear k9 S8 M8 K8
                        go_wp2_with fail
                        go_roundw
                        case rel => exact ⟨1, by omega, rfl, K9.out⟩
                        case measure => simp [intOf]
                      · have hix := fun w => (index_four (.slice A7 k0 c7) (.slice A9 (k0 + 1) c9) (.slice AA k0 ca) (.slice A4 p c4) w).2.1
                        go_wp2_with fail
                        clear hix
                        refine (reduce_sz0 (S7.out.get 3 rfl) sTW.out (by omega) (by omega)).mono ?_
                        rw [E3.out.2.2.2]
                        rintro e w8 ⟨A8, n8, c8, rfl, mm, k8⟩
                        have S8 := Lib.hid (S7.out.later k8)
                        have M8 := Lib.hid mm
                        have K8 := Lib.hid (HK7.out.trans k8)
                        clear mm k8 S7 HK7
                        go_wp2_with fail
                        refine (same_szm M8.out (S8.out.get 1 rfl) sR.out (by omega)).mono ?_
                        rintro e w9 ⟨rfl, k9⟩
                        have K9 := Lib.hid (K8.out.trans k9)
                        clear k9 S8 M8 K8
                        go_wp2_with fail
                        go_roundw
                        case rel => exact ⟨2, by omega, rfl, K9.out⟩
                        case measure => simp [intOf]
                      · have hix := fun w => (index_four (.slice A7 k0 c7) (.slice A9 (k0 + 1) c9) (.slice AA k0 ca) (.slice A4 p c4) w).2.2.1
                        go_wp2_with fail
                        clear hix
                        refine (reduce_sz0 (S7.out.get 4 rfl) sY2.out (by omega) (by omega)).mono ?_
                        rw [E4.out.1]
                        rintro e w8 ⟨A8, n8, c8, rfl, mm, k8⟩
                        have S8 := Lib.hid (S7.out.later k8)
                        have M8 := Lib.hid mm
                        have K8 := Lib.hid (HK7.out.trans k8)
                        clear mm k8 S7 HK7
                        go_wp2_with fail
                        refine (same_szm M8.out (S8.out.get 1 rfl) sR.out (by omega)).mono ?_
                        rintro e w9 ⟨rfl, k9⟩
                        have K9 := Lib.hid (K8.out.trans k9)
                        clear k9 S8 M8 K8
                        go_wp2_with fail
                        go_roundw
                        case rel => exact ⟨3, by omega, rfl, K9.out⟩
                        case measure => simp [intOf]
                      · have hix := fun w => (index_four (.slice A7 k0 c7) (.slice A9 (k0 + 1) c9) (.slice AA k0 ca) (.slice A4 p c4) w).2.2.2
                        go_wp2_with fail
                        clear hix
                        refine (reduce_sz0 (S7.out.get 1 rfl) sR.out (by omega) (by omega)).mono ?_
                        rw [HX3.out]
                        rintro e w8 ⟨A8, n8, c8, rfl, mm, k8⟩
                        have S8 := Lib.hid (S7.out.later k8)
                        have M8 := Lib.hid mm
                        have K8 := Lib.hid (HK7.out.trans k8)
                        clear mm k8 S7 HK7
                        go_wp2_with fail
                        refine (same_szm M8.out (S8.out.get 1 rfl) sR.out (by omega)).mono ?_
                        rintro e w9 ⟨rfl, k9⟩
                        have K9 := Lib.hid (K8.out.trans k9)
                        clear k9 S8 M8 K8
                        go_wp2_with fail
                        go_roundw
                        case rel => exact ⟨4, by omega, rfl, K9.out⟩
                        case measure => simp [intOf]
                  · obtain rfl : m = 4 := by omega
                    have hfr := form_rank sX.out
                    rw [E1.out.1, E1.out.2] at hfr
                    have sF : Hid (Sz (p + k0) k1 (R ++ X)) := hfr.1
                    have HFR := Lib.hid hfr.2
                    have HPL : Hid (p ≤ 6) := by show _ ≤ _; have := (rk_le sX.out).1; rw [E1.out.2] at this; omega
                    have z1 : ((p : Int) == (p : Int)) = true := beq_iff_eq.2 rfl
                    clear hfr
                    go_wp2_with (at_builtin; refine wpList_append_lay rfl _ _ 22 rfl Try.underlying22 rfl (Lay.nothing wr) rfl (S7.out.get 1 rfl) p (Nat.zero_add p) (by have := HPL.out; omega) ?_)
                    intro A8 c8 w8 rs8 h8 x8
                    have H8 := Lib.hid h8
                    have X8 := Lib.hid x8
                    clear h8 x8
                    go_wp2_with (at_builtin; refine wpList_append_lay rfl _ _ 22 rfl Try.underlying22 rfl H8.out rfl (S7.out.get 0 rfl) (p + k0) rfl (by have := HPL.out; omega) ?_)
                    intro A9' c9' w9 rs9 h9 x9
                    have hm9 := h9.mat
                    rw [x9, X8.out] at hm9
                    have HM9 : Hid (Mat w9 ⟨A9', p + k0, c9', R ++ X⟩) := hm9
                    have K9 := Lib.hid (S7.out.keep.trans h9.keep)
                    clear h9 x9 hm9 H8 X8 S7 HK7
                    go_wp2_with fail
                    refine (rank_sz0 HM9.out sF.out (by have := HPL.out; omega) (by omega)).mono ?_
                    rw [HFR.out]
                    rintro e w10 ⟨rfl, k10⟩
                    have K10 := Lib.hid (K9.out.trans k10)
                    clear k10 K9
                    go_wp2_with fail
                    refine (wakes_any _).mono ?_
                    rintro e w11 ⟨rfl, k11⟩
                    have K11 := Lib.hid (K10.out.trans k11)
                    clear k11 K10
                    go_wp2_with fail
                    go_ret
                    exact ⟨rfl, KB.out.trans K11.out⟩
end Go.Proofs.Ytcmjglmagkjdoaa
