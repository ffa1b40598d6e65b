/- The walks of CrcKnown, CrcBack and CrcParts. -/
import Derived.Test.YthhfahljdbcpjaaDoorCwakes
namespace Go.Proofs.YthhfahljdbcpjaaDoor
set_option linter.unusedVariables false
set_option linter.unusedSimpArgs false
open Go.RowKit Crc
theorem k_f : joinVal 0 7 1048576 = 7 := by rw [joinVal, if_neg (by decide)]; exact join_zero _ _
theorem k_g : openErr [] = 4 ∧ openVal [] = [] := by decide +kernel
theorem k_h : openErr [0, 0, 0, 0] = 0 ∧ openVal [0, 0, 0, 0] = [] := by decide +kernel
set_option maxRecDepth 100000 in
set_option maxHeartbeats 2000000 in
theorem known_any (w : World) (hT : TabW w) : Calls Tryd.prog 10 #[] w fun e w' => e = .returned (.bool true) ∧ Keep w w' := by
  have HT := Lib.hid hT
  clear hT
  go_enter Tryd.func10, Tryd.ntmps10
  go_wp2_with fail
  refine (cjoin_any 1 2 (-1) (by decide) (by decide) _ HT.out).mono ?_
  rintro e w1 ⟨rfl, rfl⟩
  rw [show joinErr (-1) = 1 from rfl]
  go_wp2_with fail
  refine (cjoin_any 1 2 1048577 (by decide) (by decide) _ HT.out).mono ?_
  rintro e w1 ⟨rfl, rfl⟩
  rw [show joinErr 1048577 = 1 from rfl]
  go_wp2_with fail
  refine (cjoin_any 0 7 1048576 (by decide) (by decide) _ HT.out).mono ?_
  rintro e w1 ⟨rfl, rfl⟩
  rw [show joinErr 1048576 = 0 from rfl, k_f]
  go_wp2_with fail
  refine (copen_any 0 0 0 none [] _ HT.out (Bytes.nil _ _ _) (Nat.zero_le _) (by decide) (by decide)).mono ?_
  rintro e w1 ⟨P1, n1, c1, rfl, o1, s1⟩
  rw [k_g.1]
  have K1 := Lib.hid s1
  have hmk : ∀ w : World, (Instr.makeSlice 22 (.int .i64 4) (.int .i64 4)).run Tryd.prog w = .ok (.slice (some ⟨w.heap.size, 0, none⟩) 4 4) (w.alloc (.cells (madeCells #[.int .u8 0] 4) 5)) := fun w => run_make_bytes (P := Tryd.prog) Tryd.underlying22 info5 4 (by decide) w
  clear s1 o1
  go_wp2_with fail
  refine (copen_any _ 4 4 _ [0, 0, 0, 0] _ (HT.out.keep (K1.out.alloc _ _)) (Own.made w1 5 4 (by decide)).bytes (by simp) (by decide) (by decide)).mono ?_
  rintro e w2 ⟨P2, n2, c2, rfl, o2, s2⟩
  rw [k_h.1]
  rw [k_h.2] at o2
  obtain rfl : n2 = 0 := o2.length.symm
  have K2 := Lib.hid ((K1.out.alloc _ _).trans s2)
  clear s2 o2 hmk
  go_wp2_with fail
  refine (wakes_any _ (HT.out.keep K2.out)).mono ?_
  rintro e w3 ⟨rfl, k3⟩
  have K3 := Lib.hid (K2.out.trans k3)
  clear k3
  go_wp2_with fail
  go_ret
  exact ⟨rfl, K3.out⟩
set_option maxRecDepth 100000 in
set_option maxHeartbeats 2000000 in
theorem back_any (n c : Nat) (A : Option Addr) (xs : List Nat) (w : World) (hT : TabW w) (h : Bytes w w.heap.size A n xs) (hn : n ≤ 140737488351232) (hc : n ≤ c) :
    Calls Tryd.prog 6 #[.slice A n c] w fun e w' => e = .returned (.bool true) ∧ Keep w w' := by
  have HT := Lib.hid hT
  have HB := Lib.hid h
  have HL := Lib.hid h.length
  clear hT h
  go_enter Tryd.func6, Tryd.ntmps6
  go_wp2_with fail
  refine (copen_any _ n c A xs w HT.out HB.out (Nat.le_refl _) (by omega) hc).mono ?_
  rintro e w1 ⟨P1, n1, c1, rfl, o1, s1⟩
  have hlen := o1.length
  have O1 := Lib.hid o1
  have K1 := Lib.hid s1
  clear s1 o1
  by_cases he : openErr xs = 0
  · have hv : openVal xs = frontN xs := by rw [openVal, if_pos he]
    have h4 : ¬ xs.length < 4 := fun h => by rw [openErr, if_pos h] at he; cases he
    have hs : sealN (frontN xs) = xs := by
      by_cases e : sealN (frontN xs) = xs
      · exact e
      · rw [openErr, if_neg h4, if_neg e] at he; cases he
    have hn1 : n1 ≤ n := by
      rw [hv, frontN, List.length_take, HL.out] at hlen
      omega
    have hq : ((strN (sealN (openVal xs))).toList == (strN xs).toList) = true := by rw [hv]; exact strN_eq hs
    have TB := Lib.hid (str_later (c := c) HB.out (Nat.le_refl _))
    rw [he]
    clear hv h4 hs he
    go_wp2_with fail
    refine wp_region_noPanic ?_
    refine wp_region_held_drew (S := fun wz => Keep w1 wz) (by kernel_rfl) (Keep.drew (Keep.refl _)) (fun hHeld => ?_)
    refine wpAnyH_take (i := 0) (v := ?_) rfl (by kernel_rfl) (by kernel_rfl) (by kernel_rfl) (fun _ _ _ h => h) (Or.inl ⟨by rfl, ?_⟩) hHeld ?_
    rotate_left
    · intro wq hSw
      go_simp
      all_goals with_reducible rfl
    try simp only [Act.put, List.getElem_toArray, List.getElem_cons_succ, List.getElem_cons_zero, List.setIfInBounds_toArray, List.set_cons_zero, List.set_cons_succ]
    refine wpAnyH_take (i := 3) (v := ?_) rfl (by kernel_rfl) (by kernel_rfl) (by kernel_rfl) (fun _ _ _ h => h) (Or.inl ⟨by rfl, ?_⟩) hHeld ?_
    rotate_left
    · intro wq hSw
      go_simp
      all_goals with_reducible rfl
    try simp only [Act.put, List.getElem_toArray, List.getElem_cons_succ, List.getElem_cons_zero, List.setIfInBounds_toArray, List.set_cons_zero, List.set_cons_succ]
    refine wpAnyH_take (i := 4) (v := ?_) rfl (by kernel_rfl) (by kernel_rfl) (by kernel_rfl) (fun _ _ _ h => h) (Or.inl ⟨by rfl, ?_⟩) hHeld ?_
    rotate_left
    · intro wq hSw
      have q0 := TB.out wq (K1.out.trans hSw)
      go_simp
      all_goals with_reducible rfl
    try simp only [Act.put, List.getElem_toArray, List.getElem_cons_succ, List.getElem_cons_zero, List.setIfInBounds_toArray, List.set_cons_zero, List.set_cons_succ]
    refine wpAnyH_ready (rs := [1]) (by kernel_rfl) (by simp) ?_
    refine AllReadyH.cons rfl (fun K hK => ?_) AllReadyH.nil
    go_simp
    refine (cseal_any _ n1 _ _ _ _ (HT.out.keep (K1.out.trans hHeld)) (O1.out.bytes.keep (Nat.le_refl _) hHeld) hHeld.size (by omega)).mono ?_
    rintro e w2 ⟨A2, n2, c2, rfl, o2, k2⟩
    have T2 := Lib.hid (str_later (c := c2) o2.bytes (Nat.le_refl _))
    have hKp : Keep w1 w2 := Keep.trans hHeld k2
    refine hK.out _ _ hKp (fun _ => ?_)
    clear hK K hHeld
    refine wpAnyH_strong (S' := fun wz => Keep w2 wz) (fun wz h => Keep.trans hKp h) _ _ _ _ ?_
    have hHeld : Keep w2 w2 := Keep.refl _
    try simp only [Act.put, List.getElem_toArray, List.getElem_cons_succ, List.getElem_cons_zero, List.setIfInBounds_toArray, List.set_cons_zero, List.set_cons_succ]
    refine wpAnyH_take (i := 2) (v := ?_) rfl (by kernel_rfl) (by kernel_rfl) (by kernel_rfl) (fun _ _ _ h => h) (Or.inl ⟨by rfl, ?_⟩) hHeld ?_
    rotate_left
    · intro wq hSw
      have q0 := T2.out wq hSw
      go_simp
      all_goals with_reducible rfl
    try simp only [Act.put, List.getElem_toArray, List.getElem_cons_succ, List.getElem_cons_zero, List.setIfInBounds_toArray, List.set_cons_zero, List.set_cons_succ]
    refine wpAnyH_take (i := 5) (v := ?_) rfl (by kernel_rfl) (by kernel_rfl) (by kernel_rfl) (fun _ _ _ h => h) (Or.inl ⟨by rfl, ?_⟩) hHeld ?_
    rotate_left
    · intro wq hSw
      go_simp
      all_goals with_reducible rfl
    try simp only [Act.put, List.getElem_toArray, List.getElem_cons_succ, List.getElem_cons_zero, List.setIfInBounds_toArray, List.set_cons_zero, List.set_cons_succ]
    refine wpAnyH_take (i := 6) (v := ?_) rfl (by kernel_rfl) (by kernel_rfl) (by kernel_rfl) (fun _ _ _ h => h) (Or.inl ⟨by rfl, ?_⟩) hHeld ?_
    rotate_left
    · intro wq hSw
      go_simp
      all_goals with_reducible rfl
    try simp only [Act.put, List.getElem_toArray, List.getElem_cons_succ, List.getElem_cons_zero, List.setIfInBounds_toArray, List.set_cons_zero, List.set_cons_succ]
    refine wpAnyH_ready (rs := [7]) (by kernel_rfl) (by simp) ?_
    refine AllReadyH.cons rfl (fun K hK => ?_) AllReadyH.nil
    go_simp
    refine (wakes_any _ (HT.out.keep ((K1.out.trans hKp).trans hHeld))).mono ?_
    rintro e w3 ⟨rfl, k3⟩
    have hKq : Keep w1 w3 := hKp.trans (Keep.trans hHeld k3)
    have hKr : Keep w2 w3 := Keep.trans hHeld k3
    refine hK.out _ _ hKr (fun _ => ?_)
    clear hK K hHeld
    refine wpAnyH_strong (S' := fun wz => Keep w3 wz) (fun wz h => Keep.trans hKr h) _ _ _ _ ?_
    have hHeld : Keep w3 w3 := Keep.refl _
    try simp only [Act.put, List.getElem_toArray, List.getElem_cons_succ, List.getElem_cons_zero, List.setIfInBounds_toArray, List.set_cons_zero, List.set_cons_succ]
    refine wpAnyH_take (i := 8) (v := ?_) rfl (by kernel_rfl) (by kernel_rfl) (by kernel_rfl) (fun _ _ _ h => h) (Or.inl ⟨by rfl, ?_⟩) hHeld ?_
    rotate_left
    · intro wq hSw
      go_simp
      all_goals with_reducible rfl
    try simp only [Act.put, List.getElem_toArray, List.getElem_cons_succ, List.getElem_cons_zero, List.setIfInBounds_toArray, List.set_cons_zero, List.set_cons_succ]
    refine wpAnyH_take (i := 9) (v := ?_) rfl (by kernel_rfl) (by kernel_rfl) (by kernel_rfl) (fun _ _ _ h => h) (Or.inl ⟨by rfl, ?_⟩) hHeld ?_
    rotate_left
    · intro wq hSw
      go_simp
      all_goals with_reducible rfl
    try simp only [Act.put, List.getElem_toArray, List.getElem_cons_succ, List.getElem_cons_zero, List.setIfInBounds_toArray, List.set_cons_zero, List.set_cons_succ]
    refine wpAnyH_done (by kernel_rfl) ?_ _
    refine NoPanic.normal ?_
    clear hHeld
    have HK := Lib.hid hKq
    clear hKp hKq k2 k3 hq
    go_wp2_with fail
    go_ret
    exact ⟨rfl, K1.out.trans HK.out⟩
  · have hv : openVal xs = [] := by rw [openVal, if_neg he]
    obtain rfl : n1 = 0 := by rw [hv] at hlen; exact hlen.symm
    have hz : ((openErr xs : Int) != 0) = true := by rw [bne_iff_ne]; omega
    obtain ⟨t, ht⟩ : ∃ t, decide ((n : Int) < 4) = t := ⟨_, rfl⟩
    have hb : ((openErr xs : Int) == 4) = t := by
      rw [← ht]
      by_cases e : xs.length < 4
      · have e2 : openErr xs = 4 := by rw [openErr, if_pos e]
        rw [e2, decide_eq_true (by rw [HL.out] at e; omega)]; rfl
      · have e2 : openErr xs ≠ 4 := by rw [openErr, if_neg e]; split <;> decide
        rw [decide_eq_false (by rw [HL.out] at e; omega), beq_eq_false_iff_ne]; omega
    have hb2 : (t == t) = true := beq_iff_eq.2 rfl
    generalize openErr xs = er at *
    clear hv hlen he O1
    go_wp2_with fail
    refine (wakes_any _ (HT.out.keep K1.out)).mono ?_
    rintro e w2 ⟨rfl, k2⟩
    have K2 := Lib.hid (K1.out.trans k2)
    clear k2
    go_wp2_with fail
    go_ret
    exact ⟨rfl, K2.out⟩
end Go.Proofs.YthhfahljdbcpjaaDoor
