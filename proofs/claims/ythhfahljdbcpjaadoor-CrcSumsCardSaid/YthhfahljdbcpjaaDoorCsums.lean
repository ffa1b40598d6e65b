/- The walk of CrcSums. -/
import Derived.Test.YthhfahljdbcpjaaDoorCfinds
import Derived.Test.YthhfahljdbcpjaaDoorMine
namespace Go.Proofs.YthhfahljdbcpjaaDoor
set_option linter.unusedVariables false
set_option linter.unusedSimpArgs false
open Go.RowKit Crc
set_option maxRecDepth 100000 in
set_option maxHeartbeats 4000000 in
theorem sums_any (n m ca cb : Nat) (A B : Option Addr) (xs ys : List Nat) (w : World) (hT : TabW w) (h1 : Bytes w w.heap.size A n xs) (h2 : Bytes w w.heap.size B m ys) (m1 : n ≤ 140737488351232) (m2 : m ≤ 140737488351232) (q2 : m ≤ cb) :
    Calls Tryd.prog 3 #[.slice A n ca, .slice B m cb] w fun e w' => e = .returned (.bool true) ∧ Keep w w' := by
  have HT := Lib.hid hT
  have B1 := Lib.hid h1
  have B2 := Lib.hid h2
  have L1 := Lib.hid h1.length
  clear hT h1 h2
  go_enter Tryd.func3, Tryd.ntmps3
  go_wp2_with (at_builtin; refine wpList_append_bytes rfl _ _ 22 rfl Tryd.underlying22 info5 rfl (Own.none_ _ w.heap.size 5) rfl B1.out (by omega) (Nat.le_refl _) ?_)
  intro P1 c1 w1 o1 g1 _
  have O1 := Lib.hid o1
  have K1 := Lib.hid ((Keep.refl w).grown g1 (fun k hk => by cases hk))
  clear o1 g1
  go_wp2_with (at_builtin; refine wpList_append_bytes rfl _ _ 22 rfl Tryd.underlying22 info5 rfl (Own.none_ _ w1.heap.size 5) rfl (B2.out.keep (Nat.le_refl _) K1.out) (by omega) (Nat.le_refl _) ?_)
  intro P2 c2 w2 o2 g2 _
  have O2 := Lib.hid o2
  have S2 := Lib.hid ((Keep.refl w1).grown g2 (fun k hk => by cases hk))
  have K2 := Lib.hid (K1.out.trans S2.out)
  have M1 := Lib.hid (O1.out.keep S2.out)
  clear o2 g2
  go_wp2_with fail
  refine (cseal_any _ n c1 P1 xs _ (HT.out.keep K2.out) M1.out.bytes (Nat.le_refl _) m1).mono ?_
  rintro e w3 ⟨P3, n3, c3, rfl, o3, k3⟩
  obtain rfl : n3 = n + 4 := by have e := o3.length; rw [seal_length, L1.out] at e; exact e.symm
  have O3 := Lib.hid o3
  have S3 := Lib.hid k3
  have K3 := Lib.hid (K2.out.trans k3)
  have b1 : ((sumN xs : Int) == (sumN xs : Int)) = true := beq_iff_eq.2 rfl
  have TS := Lib.hid (str_later (c := c3) o3.bytes (Nat.le_refl _))
  have hq1 : ((strN (sealN xs)).toList == (strN (sealN xs)).toList) = true := strN_eq rfl
  clear o3 k3
  go_wp2_with fail
  refine wp_region_noPanic ?_
  refine wp_region_held_drew (S := fun wz => Keep w3 wz) (by kernel_rfl) (Keep.drew (Keep.refl _)) (fun hHeld => ?_)
  refine wpAnyH_take (i := 0) (v := ?_) rfl (by kernel_rfl) (by kernel_rfl) (by kernel_rfl) (fun _ _ _ h => h) (Or.inl ⟨by rfl, ?_⟩) hHeld ?_
  rotate_left
  · intro wq hSw
    go_simp
    all_goals with_reducible rfl
  try simp only [Act.put, List.getElem_toArray, List.getElem_cons_succ, List.getElem_cons_zero, List.setIfInBounds_toArray, List.set_cons_zero, List.set_cons_succ]
  refine wpAnyH_take (i := 2) (v := ?_) rfl (by kernel_rfl) (by kernel_rfl) (by kernel_rfl) (fun _ _ _ h => h) (Or.inl ⟨by rfl, ?_⟩) hHeld ?_
  rotate_left
  · intro wq hSw
    go_simp
    all_goals with_reducible rfl
  try simp only [Act.put, List.getElem_toArray, List.getElem_cons_succ, List.getElem_cons_zero, List.setIfInBounds_toArray, List.set_cons_zero, List.set_cons_succ]
  refine wpAnyH_ready (rs := [1]) (by kernel_rfl) (by simp) ?_
  refine AllReadyH.cons rfl (fun K hK => ?_) AllReadyH.nil
  go_simp
  refine (csum_any _ n c1 P1 xs _ (HT.out.keep (K3.out.trans hHeld)) (M1.out.bytes.keep (Nat.le_refl _) (S3.out.trans hHeld)) (by omega)).mono ?_
  rintro e wx ⟨rfl, rfl⟩
  refine hK.out _ _ hHeld (fun hHeld => ?_)
  clear hK K
  try simp only [Act.put, List.getElem_toArray, List.getElem_cons_succ, List.getElem_cons_zero, List.setIfInBounds_toArray, List.set_cons_zero, List.set_cons_succ]
  refine wpAnyH_ready (rs := [3]) (by kernel_rfl) (by simp) ?_
  refine AllReadyH.cons rfl (fun K hK => ?_) AllReadyH.nil
  go_simp
  refine (rsum_any _ n ca A xs _ (B1.out.keep (Nat.le_refl _) (K3.out.trans hHeld)) (by omega)).mono ?_
  rintro e wx ⟨rfl, rfl⟩
  refine hK.out _ _ hHeld (fun hHeld => ?_)
  clear hK K
  try simp only [Act.put, List.getElem_toArray, List.getElem_cons_succ, List.getElem_cons_zero, List.setIfInBounds_toArray, List.set_cons_zero, List.set_cons_succ]
  refine wpAnyH_take (i := 4) (v := ?_) rfl (by kernel_rfl) (by kernel_rfl) (by kernel_rfl) (fun _ _ _ h => h) (Or.inl ⟨by rfl, ?_⟩) hHeld ?_
  rotate_left
  · intro wq hSw
    go_simp
    all_goals with_reducible rfl
  try simp only [Act.put, List.getElem_toArray, List.getElem_cons_succ, List.getElem_cons_zero, List.setIfInBounds_toArray, List.set_cons_zero, List.set_cons_succ]
  refine wpAnyH_take (i := 5) (v := ?_) rfl (by kernel_rfl) (by kernel_rfl) (by kernel_rfl) (fun _ _ _ h => h) (Or.inl ⟨by rfl, ?_⟩) hHeld ?_
  rotate_left
  · intro wq hSw
    go_simp
    all_goals with_reducible rfl
  try simp only [Act.put, List.getElem_toArray, List.getElem_cons_succ, List.getElem_cons_zero, List.setIfInBounds_toArray, List.set_cons_zero, List.set_cons_succ]
  refine wpAnyH_take (i := 6) (v := ?_) rfl (by kernel_rfl) (by kernel_rfl) (by kernel_rfl) (fun _ _ _ h => h) (Or.inl ⟨by rfl, ?_⟩) hHeld ?_
  rotate_left
  · intro wq hSw
    go_simp
    all_goals with_reducible rfl
  try simp only [Act.put, List.getElem_toArray, List.getElem_cons_succ, List.getElem_cons_zero, List.setIfInBounds_toArray, List.set_cons_zero, List.set_cons_succ]
  refine wpAnyH_take (i := 7) (v := ?_) rfl (by kernel_rfl) (by kernel_rfl) (by kernel_rfl) (fun _ _ _ h => h) (Or.inl ⟨by rfl, ?_⟩) hHeld ?_
  rotate_left
  · intro wq hSw
    have q0 := TS.out wq hSw
    go_simp
    all_goals with_reducible rfl
  try simp only [Act.put, List.getElem_toArray, List.getElem_cons_succ, List.getElem_cons_zero, List.setIfInBounds_toArray, List.set_cons_zero, List.set_cons_succ]
  refine wpAnyH_take (i := 8) (v := ?_) rfl (by kernel_rfl) (by kernel_rfl) (by kernel_rfl) (fun _ _ _ h => h) (Or.inl ⟨by rfl, ?_⟩) hHeld ?_
  rotate_left
  · intro wq hSw
    go_simp
    all_goals with_reducible rfl
  try simp only [Act.put, List.getElem_toArray, List.getElem_cons_succ, List.getElem_cons_zero, List.setIfInBounds_toArray, List.set_cons_zero, List.set_cons_succ]
  refine wpAnyH_ready (rs := [9]) (by kernel_rfl) (by simp) ?_
  refine AllReadyH.cons rfl (fun K hK => ?_) AllReadyH.nil
  go_simp
  refine (rseal_any _ n ca A xs _ (B1.out.keep (Nat.le_refl _) (K3.out.trans hHeld)) (Nat.le_trans K3.out.size hHeld.size) m1).mono ?_
  rintro e w4 ⟨P4, n4, c4, rfl, o4, k4⟩
  have T4 := Lib.hid (str_later (c := c4) o4.bytes (Nat.le_refl _))
  have hKp : Keep w3 w4 := Keep.trans hHeld k4
  refine hK.out _ _ hKp (fun _ => ?_)
  clear hK K hHeld
  refine wpAnyH_strong (S' := fun wz => Keep w4 wz) (fun wz h => Keep.trans hKp h) _ _ _ _ ?_
  have hHeld : Keep w4 w4 := Keep.refl _
  try simp only [Act.put, List.getElem_toArray, List.getElem_cons_succ, List.getElem_cons_zero, List.setIfInBounds_toArray, List.set_cons_zero, List.set_cons_succ]
  refine wpAnyH_take (i := 10) (v := ?_) rfl (by kernel_rfl) (by kernel_rfl) (by kernel_rfl) (fun _ _ _ h => h) (Or.inl ⟨by rfl, ?_⟩) hHeld ?_
  rotate_left
  · intro wq hSw
    have q0 := T4.out wq hSw
    go_simp
    all_goals with_reducible rfl
  try simp only [Act.put, List.getElem_toArray, List.getElem_cons_succ, List.getElem_cons_zero, List.setIfInBounds_toArray, List.set_cons_zero, List.set_cons_succ]
  refine wpAnyH_take (i := 11) (v := ?_) rfl (by kernel_rfl) (by kernel_rfl) (by kernel_rfl) (fun _ _ _ h => h) (Or.inl ⟨by rfl, ?_⟩) hHeld ?_
  rotate_left
  · intro wq hSw
    go_simp
    all_goals with_reducible rfl
  try simp only [Act.put, List.getElem_toArray, List.getElem_cons_succ, List.getElem_cons_zero, List.setIfInBounds_toArray, List.set_cons_zero, List.set_cons_succ]
  refine wpAnyH_take (i := 12) (v := ?_) rfl (by kernel_rfl) (by kernel_rfl) (by kernel_rfl) (fun _ _ _ h => h) (Or.inl ⟨by rfl, ?_⟩) hHeld ?_
  rotate_left
  · intro wq hSw
    go_simp
    all_goals with_reducible rfl
  try simp only [Act.put, List.getElem_toArray, List.getElem_cons_succ, List.getElem_cons_zero, List.setIfInBounds_toArray, List.set_cons_zero, List.set_cons_succ]
  refine wpAnyH_take (i := 13) (v := ?_) rfl (by kernel_rfl) (by kernel_rfl) (by kernel_rfl) (fun _ _ _ h => h) (Or.inl ⟨by rfl, ?_⟩) hHeld ?_
  rotate_left
  · intro wq hSw
    go_simp
    all_goals with_reducible rfl
  try simp only [Act.put, List.getElem_toArray, List.getElem_cons_succ, List.getElem_cons_zero, List.setIfInBounds_toArray, List.set_cons_zero, List.set_cons_succ]
  refine wpAnyH_done (by kernel_rfl) ?_ _
  refine NoPanic.normal ?_
  clear hHeld
  have S4 := Lib.hid hKp
  have K4 := Lib.hid (K3.out.trans hKp)
  clear hKp k4 o4 hq1 b1
  go_wp2_with fail
  refine (copen_any _ m c2 P2 ys _ (HT.out.keep K4.out) (O2.out.bytes.keep (Nat.le_refl _) (S3.out.trans S4.out)) (by have := S3.out.size; have := S4.out.size; omega) (by omega) (own_cap O2.out)).mono ?_
  rintro e w5 ⟨P5, n5, c5, rfl, o5, k5⟩
  have O5 := Lib.hid o5
  have S5 := Lib.hid k5
  have K5 := Lib.hid (K4.out.trans k5)
  clear o5 k5
  go_wp2_with fail
  refine (ropen_any _ m cb B ys _ (B2.out.keep (Nat.le_refl _) K5.out) K5.out.size m2 q2).mono ?_
  rintro e w6 ⟨P6, n6, c6, rfl, o6, k6⟩
  have S6 := Lib.hid k6
  have K6 := Lib.hid (K5.out.trans k6)
  have hq1 := run_str (O5.out.keep k6).bytes Tryd.underlying22 Tryd.underlying5 Tryd.underlying9 c5
  have hq2 := run_str o6.bytes Tryd.underlying22 Tryd.underlying5 Tryd.underlying9 c6
  have hq3 : ((strN (openVal ys)).toList == (strN (openVal ys)).toList) = true := strN_eq rfl
  have b2 : ((openErr ys : Int) == (openErr ys : Int)) = true := beq_iff_eq.2 rfl
  clear o6 k6
  go_wp2_with fail
  have S26 := Lib.hid (S3.out.trans (S4.out.trans (S5.out.trans S6.out)))
  have MS : Hid (Mine w2 w6 P3 (n + 4) c3) := ⟨_, O3.out.keep (S4.out.trans (S5.out.trans S6.out))⟩
  have MX : Hid (Mine w4 w6 P5 n5 c5) := ⟨_, O5.out.keep S6.out⟩
  have Z24 := Lib.hid (S3.out.trans S4.out).size
  have hn5 : n5 ≤ 140737488351236 := by
    have e := O5.out.length
    rw [openVal] at e
    split at e
    · rw [frontN, List.length_take, B2.out.length] at e; omega
    · simp at e; omega
  clear hq1 hq2 hq3 b2
  go_loopw [13] (fun i wr => ∃ j : Nat, j ≤ n + 4 ∧ i = .int .i64 j ∧ Mine w2 wr P3 (n + 4) c3 ∧ Mine w4 wr P5 n5 c5 ∧ Keep w2 wr) (fun i _ => n + 4 - (intOf i).toNat)
  case atStart => exact ⟨0, by omega, rfl, MS.out, MX.out, S26.out⟩
  case round =>
    clear MS MX S26
    obtain ⟨j, hj, rfl, h3, h5, hk⟩ := hrel
    by_cases hlt : j < n + 4
    · obtain ⟨g2, q, rfl, hg, hq, hc, hf⟩ := h3.at_ hlt
      obtain ⟨u, hu⟩ : ∃ u, q ^^^ 255 = u := ⟨_, rfl⟩
      obtain ⟨hxor, hu2⟩ := flip_int q u hq hu
      have H3 := Lib.hid (h3.set g2 j u hu2)
      have H5 := Lib.hid (h5.set g2 j u hu2)
      have HK := Lib.hid (hk.setCell (a := ⟨g2, j, none⟩) hg (.int .u8 (u : Int)))
      have e1 : (0 : Int) ≤ (j : Int) := Int.natCast_nonneg _
      have e2 : (j : Int) < (n : Int) + 4 := by omega
      clear h3 h5 hk hu
      go_wp2_with fail
      go_roundw
      case rel => exact ⟨j + 1, by omega, by go_num, H3.out, H5.out, HK.out⟩
      case measure => simp [intOf]; omega
    · have e2 : ¬ (j : Int) < (n : Int) + 4 := by omega
      have H5 := Lib.hid h5
      have HK := Lib.hid hk
      clear h3 h5 hk hj
      obtain ⟨wo, rfl⟩ : ∃ wo : World, wo = wr := ⟨_, rfl⟩
      go_wp2_with fail
      go_loopw [14] (fun i wr => ∃ j : Nat, j ≤ n5 ∧ i = .int .i64 j ∧ Mine w4 wr P5 n5 c5 ∧ Keep w2 wr) (fun i _ => n5 - (intOf i).toNat)
      case atStart => exact ⟨0, by omega, rfl, H5.out, HK.out⟩
      case round =>
        clear H5 HK
        obtain ⟨j, hj, rfl, h5, hk⟩ := hrel
        by_cases hlt : j < n5
        · obtain ⟨g2, q, rfl, hg, hq, hc, hf⟩ := h5.at_ hlt
          obtain ⟨u, hu⟩ : ∃ u, q ^^^ 255 = u := ⟨_, rfl⟩
          obtain ⟨hxor, hu2⟩ := flip_int q u hq hu
          have H5 := Lib.hid (h5.set g2 j u hu2)
          have HK := Lib.hid (hk.setCell (a := ⟨g2, j, none⟩) (Nat.le_trans Z24.out hg) (.int .u8 (u : Int)))
          have e1 : (0 : Int) ≤ (j : Int) := Int.natCast_nonneg _
          have e2 : (j : Int) < (n5 : Int) := by omega
          clear h5 hk hu
          go_wp2_with fail
          go_roundw
          case rel => exact ⟨j + 1, by omega, by go_num, H5.out, HK.out⟩
          case measure => simp [intOf]; omega
        · have e2 : ¬ (j : Int) < (n5 : Int) := by omega
          have KW := Lib.hid (K2.out.trans hk)
          have hq1 := run_str (M1.out.keep hk).bytes Tryd.underlying22 Tryd.underlying5 Tryd.underlying9 c1
          have hq2 := run_str (B1.out.keep (Nat.le_refl _) KW.out) Tryd.underlying22 Tryd.underlying5 Tryd.underlying9 ca
          have hq3 := run_str (O2.out.keep hk).bytes Tryd.underlying22 Tryd.underlying5 Tryd.underlying9 c2
          have hq4 := run_str (B2.out.keep (Nat.le_refl _) KW.out) Tryd.underlying22 Tryd.underlying5 Tryd.underlying9 cb
          have b3 : ((strN xs).toList == (strN xs).toList) = true := strN_eq rfl
          have b4 : ((strN ys).toList == (strN ys).toList) = true := strN_eq rfl
          clear h5 hk hj
          go_wp2_with fail
          refine (wakes_any _ (HT.out.keep KW.out)).mono ?_
          rintro e w7 ⟨rfl, k7⟩
          have K7 := Lib.hid (KW.out.trans k7)
          clear k7
          go_wp2_with fail
          go_ret
          exact ⟨rfl, K7.out⟩
end Go.Proofs.YthhfahljdbcpjaaDoor
