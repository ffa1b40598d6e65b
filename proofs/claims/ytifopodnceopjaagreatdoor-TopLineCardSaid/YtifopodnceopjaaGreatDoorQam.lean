/- The landed frames: May. -/
import Derived.Test.YtifopodnceopjaaGreatDoorQaj
import Derived.Test.YtifopodnceopjaaGreatDoorGm2
namespace Go.Proofs.YtifopodnceopjaaGreatDoor
open Go.RowKit Fr
set_option linter.unusedVariables false
set_option linter.unusedSimpArgs false
set_option maxRecDepth 100000 in
set_option maxHeartbeats 16000000 in
theorem gmay_any (m : FrM) (f : FrV) (w : World) (hf : FrIn w w.heap.size m f) :
    Calls Tryz.prog 30 #[.agg (frCells m f)] w fun e w' => e = .returned (.bool (decide (MayF f))) ∧ Keep w w' := by
  obtain ⟨w2, hw2⟩ : ∃ w2, w.alloc (.cells (frCells m f) 52) = w2 := ⟨_, rfl⟩
  obtain ⟨k2, hbox⟩ := fr_box w _ m f hw2
  obtain ⟨q, hq⟩ : ∃ q, decide (MayF f) = q := ⟨_, rfl⟩
  rw [hq]
  have HQ := Lib.hid hq
  have H1 := Lib.hid (fun wx => gmaygo_any m f wx)
  have H2 := Lib.hid (fun wx (kx : Keep w wx) => gmayhave_any m f wx (hf.later kx))
  have H3 := Lib.hid (fun wx => gown_any m f wx)
  have H4 := Lib.hid (fun wx (kx : Keep w wx) => gsame_any m (bareM m f.kind) f (bareF f) wx (hf.later kx) (hf.later kx).bare)
  obtain ⟨a, ha⟩ : ∃ a, decide (GoOk f) = a := ⟨_, rfl⟩
  obtain ⟨b, hb⟩ : ∃ a, decide (HaveOk f) = a := ⟨_, rfl⟩
  obtain ⟨c, hc⟩ : ∃ a, decide (f = bareF f) = a := ⟨_, rfl⟩
  rw [ha] at H1
  rw [hb] at H2
  rw [hc] at H4
  have HV : Hid (q = (a && (b && c))) := by
    show q = _
    rw [← hq, ← ha, ← hb, ← hc, ← Bool.decide_and, ← Bool.decide_and, decide_eq_decide]
    exact may_iff f
  obtain ⟨CB, hCB⟩ : ∃ CB, frCells (bareM m f.kind) (bareF f) = CB := ⟨_, rfl⟩
  rw [hCB] at H3 H4
  obtain ⟨g, hg⟩ : ∃ g, w.heap.size = g := ⟨_, rfl⟩
  rw [hg] at hbox
  obtain ⟨k, s, d, ep, lf, fl, gn, sq, fo, co, pay, rk, te, up, hp⟩ := f
  obtain ⟨⟨Ac, nc, cc⟩, ⟨Ap, np, cp⟩, ⟨Ar, nr, cr⟩, ⟨Au, nu, cu⟩, ⟨Ah, nh, ch⟩⟩ := m
  simp only [frCells] at hw2 H1 H2 H3 H4
  have HBOX := Lib.hid hbox
  have K2 := Lib.hid k2
  have HW2 := Lib.hid hw2
  have HG := Lib.hid hg
  clear hbox k2 hq ha hb hc hCB hf hw2 hg
  simp only [frCells]
  go_enter Tryz.func30, Tryz.ntmps30
  go_wp2_with fail
  rw [HW2.out, HG.out]
  refine wp_region_noPanic ?_
  refine wp_region_held_drew (S := fun wz => Keep w2 wz) (by kernel_rfl) (Keep.drew (Keep.refl _)) (fun hHeld => ?_)
  refine wpAnyH_take (i := 0) (v := ?_) rfl (by kernel_rfl) (by kernel_rfl) (by kernel_rfl) (fun _ _ _ h => h) (Or.inl ⟨by rfl, ?_⟩) hHeld ?_
  rotate_left
  · intro wq hSw
    obtain ⟨⟨y0, y1, y2, y3, y4⟩, ⟨y5, y6, y7, y8⟩, ⟨y9, y10, y11⟩, y12, y13, y14⟩ := (HBOX.out wq (hSw)).cells
    dsimp only at y0 y1 y2 y3 y4 y5 y6 y7 y8 y9 y10 y11 y12 y13 y14
    go_simp
    all_goals with_reducible rfl
  try simp only [Act.put, List.getElem_toArray, List.getElem_cons_succ, List.getElem_cons_zero, List.setIfInBounds_toArray, List.set_cons_zero, List.set_cons_succ]
  refine wpAnyH_ready (rs := [1]) (by kernel_rfl) (by simp) ?_
  refine AllReadyH.cons rfl (fun K hK => ?_) AllReadyH.nil
  go_simp
  refine (H1.out _).mono ?_
  rintro e w3 ⟨rfl, k3⟩
  have HK3 : Keep w2 w3 := Keep.trans hHeld k3
  have hKp : Keep w2 w3 := HK3
  refine hK.out _ _ hKp (fun _ => ?_)
  clear hK K hHeld
  refine wpAnyH_strong (S' := fun wz => Keep w3 wz) (fun wz h => Keep.trans hKp h) _ _ _ _ ?_
  have hHeld : Keep w3 w3 := Keep.refl _
  try simp only [Act.put, List.getElem_toArray, List.getElem_cons_succ, List.getElem_cons_zero, List.setIfInBounds_toArray, List.set_cons_zero, List.set_cons_succ]
  have KK3 : Hid (Keep w2 w3) := HK3
  cases a with
  | false =>
    have KF : Hid (Keep w w3) := K2.out.trans KK3.out
    refine wpAnyH_take (i := 2) (v := ?_) rfl (by kernel_rfl) (by kernel_rfl) (by kernel_rfl) (fun _ _ _ h => h) (Or.inl ⟨by rfl, ?_⟩) hHeld ?_
    rotate_left
    · intro wq hSw
      go_simp
      all_goals with_reducible rfl
    try simp only [Act.put, List.getElem_toArray, List.getElem_cons_succ, List.getElem_cons_zero, List.setIfInBounds_toArray, List.set_cons_zero, List.set_cons_succ]
    refine wpAnyH_take (i := 3) (v := undef) rfl (by kernel_rfl) (by kernel_rfl) (by kernel_rfl) (fun _ _ _ h => h) (Or.inr ⟨by rfl, rfl⟩) hHeld ?_
    try simp only [Act.put, List.getElem_toArray, List.getElem_cons_succ, List.getElem_cons_zero, List.setIfInBounds_toArray, List.set_cons_zero, List.set_cons_succ]
    refine wpAnyH_take (i := 4) (v := undef) rfl (by kernel_rfl) (by kernel_rfl) (by kernel_rfl) (fun _ _ _ h => h) (Or.inr ⟨by rfl, rfl⟩) hHeld ?_
    try simp only [Act.put, List.getElem_toArray, List.getElem_cons_succ, List.getElem_cons_zero, List.setIfInBounds_toArray, List.set_cons_zero, List.set_cons_succ]
    refine wpAnyH_take (i := 5) (v := ?_) rfl (by kernel_rfl) (by kernel_rfl) (by kernel_rfl) (fun _ _ _ h => h) (Or.inl ⟨by rfl, ?_⟩) hHeld ?_
    rotate_left
    · intro wq hSw
      go_simp
      all_goals with_reducible rfl
    try simp only [Act.put, List.getElem_toArray, List.getElem_cons_succ, List.getElem_cons_zero, List.setIfInBounds_toArray, List.set_cons_zero, List.set_cons_succ]
    refine wpAnyH_take (i := 6) (v := ?_) rfl (by kernel_rfl) (by kernel_rfl) (by kernel_rfl) (fun _ _ _ h => h) (Or.inl ⟨by rfl, ?_⟩) hHeld ?_
    rotate_left
    · intro wq hSw
      go_simp
      all_goals with_reducible rfl
    try simp only [Act.put, List.getElem_toArray, List.getElem_cons_succ, List.getElem_cons_zero, List.setIfInBounds_toArray, List.set_cons_zero, List.set_cons_succ]
    refine wpAnyH_take (i := 7) (v := undef) rfl (by kernel_rfl) (by kernel_rfl) (by kernel_rfl) (fun _ _ _ h => h) (Or.inr ⟨by rfl, rfl⟩) hHeld ?_
    try simp only [Act.put, List.getElem_toArray, List.getElem_cons_succ, List.getElem_cons_zero, List.setIfInBounds_toArray, List.set_cons_zero, List.set_cons_succ]
    refine wpAnyH_take (i := 8) (v := undef) rfl (by kernel_rfl) (by kernel_rfl) (by kernel_rfl) (fun _ _ _ h => h) (Or.inr ⟨by rfl, rfl⟩) hHeld ?_
    try simp only [Act.put, List.getElem_toArray, List.getElem_cons_succ, List.getElem_cons_zero, List.setIfInBounds_toArray, List.set_cons_zero, List.set_cons_succ]
    refine wpAnyH_take (i := 9) (v := undef) rfl (by kernel_rfl) (by kernel_rfl) (by kernel_rfl) (fun _ _ _ h => h) (Or.inr ⟨by rfl, rfl⟩) hHeld ?_
    try simp only [Act.put, List.getElem_toArray, List.getElem_cons_succ, List.getElem_cons_zero, List.setIfInBounds_toArray, List.set_cons_zero, List.set_cons_succ]
    refine wpAnyH_take (i := 10) (v := undef) rfl (by kernel_rfl) (by kernel_rfl) (by kernel_rfl) (fun _ _ _ h => h) (Or.inr ⟨by rfl, rfl⟩) hHeld ?_
    try simp only [Act.put, List.getElem_toArray, List.getElem_cons_succ, List.getElem_cons_zero, List.setIfInBounds_toArray, List.set_cons_zero, List.set_cons_succ]
    refine wpAnyH_take (i := 11) (v := ?_) rfl (by kernel_rfl) (by kernel_rfl) (by kernel_rfl) (fun _ _ _ h => h) (Or.inl ⟨by rfl, ?_⟩) hHeld ?_
    rotate_left
    · intro wq hSw
      go_simp
      all_goals with_reducible rfl
    try simp only [Act.put, List.getElem_toArray, List.getElem_cons_succ, List.getElem_cons_zero, List.setIfInBounds_toArray, List.set_cons_zero, List.set_cons_succ]
    refine wpAnyH_take (i := 12) (v := ?_) rfl (by kernel_rfl) (by kernel_rfl) (by kernel_rfl) (fun _ _ _ h => h) (Or.inl ⟨by rfl, ?_⟩) hHeld ?_
    rotate_left
    · intro wq hSw
      go_simp
      all_goals with_reducible rfl
    try simp only [Act.put, List.getElem_toArray, List.getElem_cons_succ, List.getElem_cons_zero, List.setIfInBounds_toArray, List.set_cons_zero, List.set_cons_succ]
    refine wpAnyH_done (by kernel_rfl) ?_ _
    refine NoPanic.normal ?_
    clear hHeld
    have HN : Hid (q = false) := by
      show q = _
      rw [HV.out]
      rfl
    go_wp2_with fail
    go_ret
    exact ⟨by rw [HN.out]; rfl, KF.out⟩
  | true =>
    refine wpAnyH_take (i := 2) (v := ?_) rfl (by kernel_rfl) (by kernel_rfl) (by kernel_rfl) (fun _ _ _ h => h) (Or.inl ⟨by rfl, ?_⟩) hHeld ?_
    rotate_left
    · intro wq hSw
      go_simp
      all_goals with_reducible rfl
    try simp only [Act.put, List.getElem_toArray, List.getElem_cons_succ, List.getElem_cons_zero, List.setIfInBounds_toArray, List.set_cons_zero, List.set_cons_succ]
    refine wpAnyH_take (i := 3) (v := ?_) rfl (by kernel_rfl) (by kernel_rfl) (by kernel_rfl) (fun _ _ _ h => h) (Or.inl ⟨by rfl, ?_⟩) hHeld ?_
    rotate_left
    · intro wq hSw
      obtain ⟨⟨y0, y1, y2, y3, y4⟩, ⟨y5, y6, y7, y8⟩, ⟨y9, y10, y11⟩, y12, y13, y14⟩ := (HBOX.out wq (KK3.out.trans hSw)).cells
      dsimp only at y0 y1 y2 y3 y4 y5 y6 y7 y8 y9 y10 y11 y12 y13 y14
      go_simp
      all_goals with_reducible rfl
    try simp only [Act.put, List.getElem_toArray, List.getElem_cons_succ, List.getElem_cons_zero, List.setIfInBounds_toArray, List.set_cons_zero, List.set_cons_succ]
    refine wpAnyH_ready (rs := [4]) (by kernel_rfl) (by simp) ?_
    refine AllReadyH.cons rfl (fun K hK => ?_) AllReadyH.nil
    go_simp
    refine (H2.out _ (K2.out.trans (KK3.out.trans hHeld))).mono ?_
    rintro e w4 ⟨rfl, k4⟩
    have HK4 : Keep w3 w4 := Keep.trans hHeld k4
    have hKp : Keep w3 w4 := HK4
    refine hK.out _ _ hKp (fun _ => ?_)
    clear hK K hHeld
    refine wpAnyH_strong (S' := fun wz => Keep w4 wz) (fun wz h => Keep.trans hKp h) _ _ _ _ ?_
    have hHeld : Keep w4 w4 := Keep.refl _
    try simp only [Act.put, List.getElem_toArray, List.getElem_cons_succ, List.getElem_cons_zero, List.setIfInBounds_toArray, List.set_cons_zero, List.set_cons_succ]
    have KK4 : Hid (Keep w2 w4) := KK3.out.trans HK4
    cases b with
    | false =>
      have KF : Hid (Keep w w4) := K2.out.trans KK4.out
      refine wpAnyH_take (i := 5) (v := ?_) rfl (by kernel_rfl) (by kernel_rfl) (by kernel_rfl) (fun _ _ _ h => h) (Or.inl ⟨by rfl, ?_⟩) hHeld ?_
      rotate_left
      · intro wq hSw
        go_simp
        all_goals with_reducible rfl
      try simp only [Act.put, List.getElem_toArray, List.getElem_cons_succ, List.getElem_cons_zero, List.setIfInBounds_toArray, List.set_cons_zero, List.set_cons_succ]
      refine wpAnyH_take (i := 6) (v := ?_) rfl (by kernel_rfl) (by kernel_rfl) (by kernel_rfl) (fun _ _ _ h => h) (Or.inl ⟨by rfl, ?_⟩) hHeld ?_
      rotate_left
      · intro wq hSw
        go_simp
        all_goals with_reducible rfl
      try simp only [Act.put, List.getElem_toArray, List.getElem_cons_succ, List.getElem_cons_zero, List.setIfInBounds_toArray, List.set_cons_zero, List.set_cons_succ]
      refine wpAnyH_take (i := 7) (v := undef) rfl (by kernel_rfl) (by kernel_rfl) (by kernel_rfl) (fun _ _ _ h => h) (Or.inr ⟨by rfl, rfl⟩) hHeld ?_
      try simp only [Act.put, List.getElem_toArray, List.getElem_cons_succ, List.getElem_cons_zero, List.setIfInBounds_toArray, List.set_cons_zero, List.set_cons_succ]
      refine wpAnyH_take (i := 8) (v := undef) rfl (by kernel_rfl) (by kernel_rfl) (by kernel_rfl) (fun _ _ _ h => h) (Or.inr ⟨by rfl, rfl⟩) hHeld ?_
      try simp only [Act.put, List.getElem_toArray, List.getElem_cons_succ, List.getElem_cons_zero, List.setIfInBounds_toArray, List.set_cons_zero, List.set_cons_succ]
      refine wpAnyH_take (i := 9) (v := undef) rfl (by kernel_rfl) (by kernel_rfl) (by kernel_rfl) (fun _ _ _ h => h) (Or.inr ⟨by rfl, rfl⟩) hHeld ?_
      try simp only [Act.put, List.getElem_toArray, List.getElem_cons_succ, List.getElem_cons_zero, List.setIfInBounds_toArray, List.set_cons_zero, List.set_cons_succ]
      refine wpAnyH_take (i := 10) (v := undef) rfl (by kernel_rfl) (by kernel_rfl) (by kernel_rfl) (fun _ _ _ h => h) (Or.inr ⟨by rfl, rfl⟩) hHeld ?_
      try simp only [Act.put, List.getElem_toArray, List.getElem_cons_succ, List.getElem_cons_zero, List.setIfInBounds_toArray, List.set_cons_zero, List.set_cons_succ]
      refine wpAnyH_take (i := 11) (v := ?_) rfl (by kernel_rfl) (by kernel_rfl) (by kernel_rfl) (fun _ _ _ h => h) (Or.inl ⟨by rfl, ?_⟩) hHeld ?_
      rotate_left
      · intro wq hSw
        go_simp
        all_goals with_reducible rfl
      try simp only [Act.put, List.getElem_toArray, List.getElem_cons_succ, List.getElem_cons_zero, List.setIfInBounds_toArray, List.set_cons_zero, List.set_cons_succ]
      refine wpAnyH_take (i := 12) (v := ?_) rfl (by kernel_rfl) (by kernel_rfl) (by kernel_rfl) (fun _ _ _ h => h) (Or.inl ⟨by rfl, ?_⟩) hHeld ?_
      rotate_left
      · intro wq hSw
        go_simp
        all_goals with_reducible rfl
      try simp only [Act.put, List.getElem_toArray, List.getElem_cons_succ, List.getElem_cons_zero, List.setIfInBounds_toArray, List.set_cons_zero, List.set_cons_succ]
      refine wpAnyH_done (by kernel_rfl) ?_ _
      refine NoPanic.normal ?_
      clear hHeld
      have HN : Hid (q = false) := by
        show q = _
        rw [HV.out]
        rfl
      go_wp2_with fail
      go_ret
      exact ⟨by rw [HN.out]; rfl, KF.out⟩
    | true =>
      refine wpAnyH_take (i := 5) (v := ?_) rfl (by kernel_rfl) (by kernel_rfl) (by kernel_rfl) (fun _ _ _ h => h) (Or.inl ⟨by rfl, ?_⟩) hHeld ?_
      rotate_left
      · intro wq hSw
        go_simp
        all_goals with_reducible rfl
      try simp only [Act.put, List.getElem_toArray, List.getElem_cons_succ, List.getElem_cons_zero, List.setIfInBounds_toArray, List.set_cons_zero, List.set_cons_succ]
      refine wpAnyH_take (i := 6) (v := ?_) rfl (by kernel_rfl) (by kernel_rfl) (by kernel_rfl) (fun _ _ _ h => h) (Or.inl ⟨by rfl, ?_⟩) hHeld ?_
      rotate_left
      · intro wq hSw
        go_simp
        all_goals with_reducible rfl
      try simp only [Act.put, List.getElem_toArray, List.getElem_cons_succ, List.getElem_cons_zero, List.setIfInBounds_toArray, List.set_cons_zero, List.set_cons_succ]
      refine wpAnyH_take (i := 7) (v := ?_) rfl (by kernel_rfl) (by kernel_rfl) (by kernel_rfl) (fun _ _ _ h => h) (Or.inl ⟨by rfl, ?_⟩) hHeld ?_
      rotate_left
      · intro wq hSw
        obtain ⟨⟨y0, y1, y2, y3, y4⟩, ⟨y5, y6, y7, y8⟩, ⟨y9, y10, y11⟩, y12, y13, y14⟩ := (HBOX.out wq (KK4.out.trans hSw)).cells
        dsimp only at y0 y1 y2 y3 y4 y5 y6 y7 y8 y9 y10 y11 y12 y13 y14
        go_simp
        all_goals with_reducible rfl
      try simp only [Act.put, List.getElem_toArray, List.getElem_cons_succ, List.getElem_cons_zero, List.setIfInBounds_toArray, List.set_cons_zero, List.set_cons_succ]
      refine wpAnyH_take (i := 8) (v := ?_) rfl (by kernel_rfl) (by kernel_rfl) (by kernel_rfl) (fun _ _ _ h => h) (Or.inl ⟨by rfl, ?_⟩) hHeld ?_
      rotate_left
      · intro wq hSw
        obtain ⟨⟨y0, y1, y2, y3, y4⟩, ⟨y5, y6, y7, y8⟩, ⟨y9, y10, y11⟩, y12, y13, y14⟩ := (HBOX.out wq (KK4.out.trans hSw)).cells
        dsimp only at y0 y1 y2 y3 y4 y5 y6 y7 y8 y9 y10 y11 y12 y13 y14
        go_simp
        all_goals with_reducible rfl
      try simp only [Act.put, List.getElem_toArray, List.getElem_cons_succ, List.getElem_cons_zero, List.setIfInBounds_toArray, List.set_cons_zero, List.set_cons_succ]
      refine wpAnyH_ready (rs := [9]) (by kernel_rfl) (by simp) ?_
      refine AllReadyH.cons rfl (fun K hK => ?_) AllReadyH.nil
      go_simp
      refine (H3.out _).mono ?_
      rintro e w5 ⟨rfl, k5⟩
      have HK5 : Keep w4 w5 := Keep.trans hHeld k5
      have hKp : Keep w4 w5 := HK5
      refine hK.out _ _ hKp (fun _ => ?_)
      clear hK K hHeld
      refine wpAnyH_strong (S' := fun wz => Keep w5 wz) (fun wz h => Keep.trans hKp h) _ _ _ _ ?_
      have hHeld : Keep w5 w5 := Keep.refl _
      try simp only [Act.put, List.getElem_toArray, List.getElem_cons_succ, List.getElem_cons_zero, List.setIfInBounds_toArray, List.set_cons_zero, List.set_cons_succ]
      have KK5 : Hid (Keep w2 w5) := KK4.out.trans HK5
      refine wpAnyH_ready (rs := [10]) (by kernel_rfl) (by simp) ?_
      refine AllReadyH.cons rfl (fun K hK => ?_) AllReadyH.nil
      go_simp
      refine (H4.out _ (K2.out.trans (KK5.out.trans hHeld))).mono ?_
      rintro e w6 ⟨rfl, k6⟩
      have HK6 : Keep w5 w6 := Keep.trans hHeld k6
      have hKp : Keep w5 w6 := HK6
      refine hK.out _ _ hKp (fun _ => ?_)
      clear hK K hHeld
      refine wpAnyH_strong (S' := fun wz => Keep w6 wz) (fun wz h => Keep.trans hKp h) _ _ _ _ ?_
      have hHeld : Keep w6 w6 := Keep.refl _
      try simp only [Act.put, List.getElem_toArray, List.getElem_cons_succ, List.getElem_cons_zero, List.setIfInBounds_toArray, List.set_cons_zero, List.set_cons_succ]
      have KF : Hid (Keep w w6) := K2.out.trans (KK5.out.trans HK6)
      refine wpAnyH_take (i := 11) (v := ?_) rfl (by kernel_rfl) (by kernel_rfl) (by kernel_rfl) (fun _ _ _ h => h) (Or.inl ⟨by rfl, ?_⟩) hHeld ?_
      rotate_left
      · intro wq hSw
        go_simp
        all_goals with_reducible rfl
      try simp only [Act.put, List.getElem_toArray, List.getElem_cons_succ, List.getElem_cons_zero, List.setIfInBounds_toArray, List.set_cons_zero, List.set_cons_succ]
      refine wpAnyH_take (i := 12) (v := ?_) rfl (by kernel_rfl) (by kernel_rfl) (by kernel_rfl) (fun _ _ _ h => h) (Or.inl ⟨by rfl, ?_⟩) hHeld ?_
      rotate_left
      · intro wq hSw
        go_simp
        all_goals with_reducible rfl
      try simp only [Act.put, List.getElem_toArray, List.getElem_cons_succ, List.getElem_cons_zero, List.setIfInBounds_toArray, List.set_cons_zero, List.set_cons_succ]
      refine wpAnyH_done (by kernel_rfl) ?_ _
      refine NoPanic.normal ?_
      clear hHeld
      have HN : Hid (q = c) := by
        show q = _
        rw [HV.out]
        rfl
      go_wp2_with fail
      go_ret
      exact ⟨by rw [HN.out]; rfl, KF.out⟩
end Go.Proofs.YtifopodnceopjaaGreatDoor
/- The landed frames: layTopo. -/
namespace Go.Proofs.YtifopodnceopjaaGreatDoor
open Go.RowKit Fr
set_option linter.unusedVariables false
set_option linter.unusedSimpArgs false
theorem up_form (b : Bool) : formN 1 (upForm b) = [upForm b] := by cases b <;> rfl
theorem ups_take (l : List Bool) (i : Nat) (b : Bool) (h : l[i]? = some b) : (l.take (i + 1)).map upForm = (l.take i).map upForm ++ formN 1 (upForm b) := by
  rw [List.take_add_one, h, Option.toList_some, List.map_append, up_form]
  rfl
theorem flat_take {α : Type} (f : α → List Nat) (l : List α) (i : Nat) (x : α) (h : l[i]? = some x) : (l.take (i + 1)).flatMap f = (l.take i).flatMap f ++ f x := by
  rw [List.take_add_one, h, Option.toList_some, List.flatMap_append]
  simp
theorem edges_len (l : List (Int × Int)) : (l.flatMap edgeForm).length = 2 * l.length := by
  induction l with
  | nil => rfl
  | cons e l ih => rw [List.flatMap_cons, List.length_append, ih, List.length_cons, edgeForm, List.length_append, formN_length, formN_length]; omega
theorem hops_len (l : List (List (Int × Int))) (h : ∀ r ∈ l, r.length ≤ 128) : (l.flatMap hopForm).length ≤ 257 * l.length := by
  induction l with
  | nil => simp
  | cons e l ih =>
    have h1 := ih (fun r hr => h r (by simp [hr]))
    have h2 := h e (by simp)
    rw [List.flatMap_cons, List.length_append, List.length_cons, hopForm, List.length_append, formN_length, edges_len]; omega
/-- What stands behind a topology's epoch. -/
def topoTail (up : List Bool) (hp : List (List (Int × Int))) : List Nat := formN 1 up.length ++ (up.map upForm ++ (formN 1 hp.length ++ hp.flatMap hopForm))
set_option maxRecDepth 100000 in
set_option maxHeartbeats 4000000 in
theorem glay_topo (F0 : Nat → Prop) (B g h te : Nat) (u hs : SlV) (up : List Bool) (hp : List (List (Int × Int))) (xs : List Nat) (w : World) (hS : LayS w F0 g xs) (hh : ClosC w h g) (hnh : ¬ F0 h) (hF : ∀ b, F0 b → B ≤ b) (hB : B ≤ w.heap.size)
    (hU : UpsAt w B u.A u.n up) (hH : HopsAt w B hs.A hs.n hp) (ok : TopoOk te up hp) (hx : xs.length ≤ 800000) :
    Calls Tryz.prog 80 #[.agg (topoCells te u hs), .func (.func 78) #[] #[.pointer (some ⟨h, 0, none⟩)]] w fun e w' => e = .returned (.tuple #[]) ∧ LayN F0 w w' g (xs ++ topoTail up hp) := by
  obtain ⟨Au, nu, cu⟩ := u
  obtain ⟨Ah, nh, ch⟩ := hs
  dsimp only at *
  have l1 := hU.length
  have l2 := hH.length
  obtain ⟨_, _, u1, u2, h1, h2, hall⟩ := ok
  rw [l1] at u1 u2 hall
  rw [l2] at h1 h2
  have h0lt := World.block_lt_of_cell? w _ hh
  obtain ⟨w2, hw2⟩ : ∃ w2, w.alloc (.cells (topoCells te ⟨Au, nu, cu⟩ ⟨Ah, nh, ch⟩) 50) = w2 := ⟨_, rfl⟩
  obtain ⟨k2, hbox⟩ := to_box w _ te _ _ hw2
  obtain ⟨gt, hgt⟩ : ∃ gt, w.heap.size = gt := ⟨_, rfl⟩
  obtain ⟨x1, x2, x3⟩ := hbox w2 (Keep.refl w2)
  have hgl : gt < w2.heap.size := by rw [← hgt]; exact World.block_lt_of_cell? w2 _ x1
  rw [hgt] at x1 x2 x3
  dsimp only at x2 x3
  have hng : ¬ F0 gt := fun e => by have := hS.2.1 _ e; omega
  -- the state at the beginning
  have t2 : LayT w2 F0 g h F0 w2 xs := LayT.start (hS.keep k2)
  have hh2 : ClosC w2 h g := (World.cell?_of_block (k2.block h h0lt)).trans hh
  have hU2 : UpsAt w2 B Au nu up := hU.keep hB k2
  have hH2 : HopsAt w2 B Ah nh hp := hH.keep hB k2
  have hB2 : B ≤ w2.heap.size := Nat.le_trans hB k2.size
  -- what holds in each later world
  have HBOX : Hid (∀ F wr ys, LayT w2 F0 g h F wr ys → wr.cell? ⟨gt, 1, none⟩ = some (.slice Au nu cu) ∧ wr.cell? ⟨gt, 2, none⟩ = some (.slice Ah nh ch) ∧ ClosC wr h g ∧ ¬ F h ∧ UpsAt wr B Au nu up ∧ HopsAt wr B Ah nh hp ∧ ¬ F gt ∧ (∀ b, F b → B ≤ b) ∧ B ≤ wr.heap.size) := fun F wr ys t =>
    ⟨t.tn.cell x2 hng, t.tn.cell x3 hng, t.clos hh2 hnh, t.not (Nat.lt_of_lt_of_le h0lt k2.size) hnh, hU2.below (t.tn.below hF hB2), hH2.below (t.tn.below hF hB2), t.not hgl hng, fun b hb => by
      rcases t.new b hb with e | e
      · exact hF b e
      · omega, Nat.le_trans hB2 t.tn.size⟩
  have T2 := Lib.hid t2
  have HALL := Lib.hid hall
  have K2 := Lib.hid k2
  have H0 : Hid (Calls Tryz.prog 78 #[.slice (some ⟨w2.heap.size, 0, none⟩) 1 1, .pointer (some ⟨h, 0, none⟩)] (w2.alloc (.cells #[.int .i64 (nu : Int)] 3)) fun e w' => e = .returned (.tuple #[]) ∧ LayN F0 w2 w' g (xs ++ formN 1 nu)) :=
    glay_one F0 g h nu xs w2 t2.st hh2 hnh (by omega) (by omega)
  have L1 := Lib.hid l1
  have L2 := Lib.hid l2
  simp only [topoCells] at hw2
  clear t2 hh2 hU2 hH2 hbox hU hH hS hh hnh hF hall k2 x1 hng hB hB2 h0lt l1 l2
  simp only [topoCells]
  have HW2 := Lib.hid hw2
  have HGT := Lib.hid hgt
  go_enter Tryz.func80, Tryz.ntmps80
  go_wp2_with fail
  refine H0.out.mono ?_
  rintro e w3 ⟨rfl, n3⟩
  obtain ⟨F3, t3⟩ := T2.out.next n3
  have T3 := Lib.hid t3
  obtain ⟨x2, x3, _⟩ := HBOX.out F3 w3 _ t3
  clear n3 t3
  go_wp2_with fail
  go_loopw [19] (fun iv wr => ∃ (i : Nat) (F : Nat → Prop), i ≤ nu ∧ iv = .int .i64 i ∧ LayT w2 F0 g h F wr (xs ++ formN 1 nu ++ (up.take i).map upForm)) (fun iv _ => nu - (intOf iv).toNat)
  case atStart => exact ⟨0, F3, by omega, rfl, by simpa using T3.out⟩
  case round =>
    obtain ⟨i, F, hi, rfl, t⟩ := hrel
    obtain ⟨x2, x3, cl, nh', hU, hH, ng, hFB, hBw⟩ := HBOX.out F wr _ t
    have T := Lib.hid t
    by_cases hlt : i < nu
    · obtain ⟨b, hb⟩ := get_some L1.out hlt
      obtain ⟨p, o, rfl, _, hc⟩ := hU.at_ hb
      have e1 : (0 : Int) ≤ (i : Int) := Int.natCast_nonneg _
      have e2 : (i : Int) < (nu : Int) := by omega
      have hlen : (xs ++ formN 1 nu ++ (up.take i).map upForm).length ≤ 900000 := by
        rw [List.length_append, List.length_append, formN_length, List.length_map, List.length_take]; omega
      have HX := Lib.hid (ups_take up i b hb)
      have HN : Hid (Calls Tryz.prog 78 #[.slice (some ⟨wr.heap.size, 0, none⟩) 1 1, .pointer (some ⟨h, 0, none⟩)] (wr.alloc (.cells #[.int .i64 ((upForm b : Nat) : Int)] 3)) fun e w' => e = .returned (.tuple #[]) ∧ LayN F wr w' g ((xs ++ formN 1 nu ++ (up.take i).map upForm) ++ formN 1 (upForm b))) :=
        glay_one F g h (upForm b) _ wr t.st cl nh' (by cases b <;> decide) hlen
      have HE : ∀ w4, LayN F wr w4 g ((xs ++ formN 1 nu ++ (up.take i).map upForm) ++ formN 1 (upForm b)) → ∃ F', LayT w2 F0 g h F' w4 (xs ++ formN 1 nu ++ (up.take (i + 1)).map upForm) := fun w4 n4 => by
        rw [HX.out, ← List.append_assoc]
        exact T.out.next n4
      have HE := Lib.hid HE
      clear hb x2 x3 cl nh' hU hH ng hFB hBw t hlen
      cases b with
      | true =>
        go_wp2_with fail
        refine HN.out.mono ?_
        rintro e w4 ⟨rfl, n4⟩
        obtain ⟨F4, t4⟩ := HE.out w4 n4
        have T4 := Lib.hid t4
        clear n4 t4 hc
        go_wp2_with fail
        go_roundw
        case rel => exact ⟨i + 1, F4, by omega, by go_num, T4.out⟩
        case measure => simp [intOf]; omega
      | false =>
        go_wp2_with fail
        refine HN.out.mono ?_
        rintro e w4 ⟨rfl, n4⟩
        obtain ⟨F4, t4⟩ := HE.out w4 n4
        have T4 := Lib.hid t4
        clear n4 t4 hc
        go_wp2_with fail
        go_roundw
        case rel => exact ⟨i + 1, F4, by omega, by go_num, T4.out⟩
        case measure => simp [intOf]; omega
    · obtain rfl : i = nu := by omega
      have T5 : Hid (LayT w2 F0 g h F wr (xs ++ formN 1 i ++ up.map upForm)) := by
        show LayT _ _ _ _ _ _ _
        have := t
        rwa [List.take_of_length_le (by rw [L1.out]; exact Nat.le_refl _)] at this
      have H6 : Hid (Calls Tryz.prog 78 #[.slice (some ⟨wr.heap.size, 0, none⟩) 1 1, .pointer (some ⟨h, 0, none⟩)] (wr.alloc (.cells #[.int .i64 (nh : Int)] 3)) fun e w' => e = .returned (.tuple #[]) ∧ LayN F wr w' g ((xs ++ formN 1 i ++ up.map upForm) ++ formN 1 nh)) :=
        glay_one F g h nh _ wr T5.out.st cl nh' (by omega) (by rw [List.length_append, List.length_append, formN_length, List.length_map, L1.out]; omega)
      clear t T x2 cl nh' hU hH ng hFB hBw
      go_wp2_with fail
      refine H6.out.mono ?_
      rintro e w6 ⟨rfl, n6⟩
      obtain ⟨F6, t6⟩ := T5.out.next n6
      have T6 := Lib.hid t6
      obtain ⟨_, y3, _⟩ := HBOX.out F6 w6 _ t6
      clear n6 t6 x3
      go_wp2_with fail
      obtain ⟨ys, hys⟩ : ∃ ys, xs ++ formN 1 i ++ up.map upForm ++ formN 1 nh = ys := ⟨_, rfl⟩
      have hyl : ys.length ≤ 810000 := by
        rw [← hys, List.length_append, List.length_append, List.length_append, formN_length, formN_length, List.length_map, L1.out]; omega
      rw [hys] at T6
      have HY : Hid (ys ++ hp.flatMap hopForm = xs ++ topoTail up hp) := by
        show _ = _
        rw [← hys, topoTail, L1.out, L2.out]
        simp only [List.append_assoc]
      clear hys H6 T5 H0
      go_loopw [40] (fun iv wr => ∃ (i : Nat) (F : Nat → Prop), i ≤ nh ∧ iv = .int .i64 i ∧ LayT w2 F0 g h F wr (ys ++ (hp.take i).flatMap hopForm)) (fun iv _ => nh - (intOf iv).toNat)
      case atStart => exact ⟨0, F6, by omega, rfl, by simpa using T6.out⟩
      case round =>
        obtain ⟨wz, rfl⟩ : ∃ wz, wz = wr := ⟨_, rfl⟩
        obtain ⟨k, F, hk, rfl, t⟩ := hrel
        obtain ⟨x2, x3, cl, nh', hU, hH, ng, hFB, hBw⟩ := HBOX.out F wz _ t
        have T := Lib.hid t
        by_cases hlt : k < nh
        · obtain ⟨r, hr⟩ := get_some L2.out hlt
          obtain ⟨b, off, ⟨As, ns, cs⟩, rfl, hbl, hc, hE, hs1, hs2⟩ := hH.at_ hr
          dsimp only at hc hE hs1 hs2
          have q1 := hE.length
          have hrok := HALL.out r (List.mem_of_getElem? hr)
          rw [q1] at hrok
          obtain ⟨hn128, hedge⟩ := hrok
          have hlen : (ys ++ (hp.take k).flatMap hopForm).length ≤ 820000 := by
            have := hops_len (hp.take k) (fun r hr => (HALL.out r (List.mem_of_mem_take hr)).1)
            rw [List.length_take] at this
            rw [List.length_append]; omega
          have e1 : (0 : Int) ≤ (k : Int) := Int.natCast_nonneg _
          have e2 : (k : Int) < (nh : Int) := by omega
          have HX := Lib.hid (flat_take hopForm hp k r hr)
          obtain ⟨zs, hzs⟩ : ∃ zs, ys ++ (hp.take k).flatMap hopForm = zs := ⟨_, rfl⟩
          rw [hzs] at T t hlen
          have HZ := Lib.hid hzs
          have HN : Hid (Calls Tryz.prog 78 #[.slice (some ⟨wz.heap.size, 0, none⟩) 1 1, .pointer (some ⟨h, 0, none⟩)] (wz.alloc (.cells #[.int .i64 (ns : Int)] 3)) fun e w' => e = .returned (.tuple #[]) ∧ LayN F wz w' g (zs ++ formN 1 ns)) :=
            glay_one F g h ns _ wz t.st cl nh' (by omega) (by omega)
          have TI : Hid (LayT wz F g h F wz zs) := LayT.start t.st
          have HIN : Hid (∀ F' wr ys', LayT wz F g h F' wr ys' → EdgesAt wr B As ns r ∧ ClosC wr h g ∧ ¬ F' h) := fun F' wr ys' t' =>
            ⟨hE.below (t'.tn.below hFB hBw), t'.clos cl nh', t'.not (World.block_lt_of_cell? wz _ cl) nh'⟩
          have HED := Lib.hid hedge
          clear t x2 cl nh' hU hH ng hFB hBw hE hr hzs hedge
          go_wp2_with fail
          refine HN.out.mono ?_
          rintro e w8 ⟨rfl, n8⟩
          obtain ⟨F8, t8⟩ := TI.out.next n8
          have T8 := Lib.hid t8
          clear n8 t8 hc x3
          go_wp2_with fail
          go_loopw [51] (fun iv wr => ∃ (i : Nat) (F' : Nat → Prop), i ≤ ns ∧ iv = .int .i64 i ∧ LayT wz F g h F' wr (zs ++ formN 1 ns ++ (r.take i).flatMap edgeForm)) (fun iv _ => ns - (intOf iv).toNat)
          case atStart => exact ⟨0, F8, by omega, rfl, by simpa using T8.out⟩
          case round =>
            obtain ⟨j, F', hj, rfl, t⟩ := hrel
            obtain ⟨hE, cl, nh'⟩ := HIN.out F' wr _ t
            have T' := Lib.hid t
            by_cases hjl : j < ns
            · obtain ⟨⟨ea, eb⟩, he⟩ := get_some q1 hjl
              obtain ⟨p, o, rfl, _, s1, s2⟩ := hE.at_ he
              dsimp only at s1 s2
              have s2 : wr.cell? ⟨p, o + j * 2 + 1, none⟩ = some (.int .i64 eb) := s2
              obtain ⟨d1, d2, d3, d4, d5⟩ := HED.out (ea, eb) (List.mem_of_getElem? he)
              dsimp only at d1 d2 d3 d4
              obtain ⟨a, rfl⟩ : ∃ a : Nat, ea = a := ⟨ea.toNat, by omega⟩
              obtain ⟨c, rfl⟩ : ∃ c : Nat, eb = c := ⟨eb.toNat, by omega⟩
              have hlen2 : (zs ++ formN 1 ns ++ (r.take j).flatMap edgeForm).length ≤ 830000 := by
                rw [List.length_append, List.length_append, formN_length, edges_len, List.length_take]; omega
              obtain ⟨w7, hw7⟩ : ∃ w7, wr.alloc (.cells #[.int .i64 (a : Int), .int .i64 (c : Int)] 99) = w7 := ⟨_, rfl⟩
              obtain ⟨k7, m0, m1⟩ := two_box wr _ _ _ hw7
              obtain ⟨g7, hg7⟩ : ∃ g7, wr.heap.size = g7 := ⟨_, rfl⟩
              rw [hg7] at m0 m1
              have HX2 : Hid ((r.take (j + 1)).flatMap edgeForm = (r.take j).flatMap edgeForm ++ (formN 1 a ++ formN 1 c)) := flat_take edgeForm r j _ he
              have e3 : (0 : Int) ≤ (j : Int) := Int.natCast_nonneg _
              have e4 : (j : Int) < (ns : Int) := by omega
              have T7 := t.keep k7
              have HN7 : Hid (Calls Tryz.prog 78 #[.slice (some ⟨w7.heap.size, 0, none⟩) 2 2, .pointer (some ⟨h, 0, none⟩)] (w7.alloc (.cells #[.int .i64 (a : Int), .int .i64 (c : Int)] 3)) fun e w' => e = .returned (.tuple #[]) ∧ LayN F' w7 w' g (zs ++ formN 1 ns ++ (r.take j).flatMap edgeForm ++ (formN 1 a ++ formN 1 c))) :=
                glay_two F' g h a c _ w7 T7.st ((World.cell?_of_block (k7.block h (World.block_lt_of_cell? wr _ cl))).trans cl) nh' (by omega) (by omega) (by omega)
              have HE2 : Hid (∀ w4, LayN F' w7 w4 g (zs ++ formN 1 ns ++ (r.take j).flatMap edgeForm ++ (formN 1 a ++ formN 1 c)) → ∃ F'', LayT wz F g h F'' w4 (zs ++ formN 1 ns ++ (r.take (j + 1)).flatMap edgeForm)) := fun w4 n4 => by
                rw [HX2.out, ← List.append_assoc]
                exact T7.next n4
              clear hE cl nh' t T7 k7 he hlen2
              go_wp2_with fail
              refine HN7.out.mono ?_
              rintro e w9 ⟨rfl, n9⟩
              obtain ⟨F9, t9⟩ := HE2.out w9 n9
              have T9 := Lib.hid t9
              clear n9 t9 s1 s2 m0 m1
              go_wp2_with fail
              exact ⟨⟨j + 1, F9, by omega, by go_num, T9.out⟩, by simp [intOf]; omega⟩
            · obtain rfl : j = ns := by omega
              have TE : Hid (LayN F wz wr g (ys ++ (hp.take (k + 1)).flatMap hopForm)) := by
                show LayN _ _ _ _ _
                have := t.end_
                rw [List.take_of_length_le (by rw [q1]; exact Nat.le_refl _)] at this
                rw [HX.out, hopForm, q1, ← List.append_assoc, ← List.append_assoc, HZ.out]
                exact this
              obtain ⟨FE, tE⟩ := T.out.next TE.out
              have TE2 := Lib.hid tE
              clear hE cl nh' t tE
              go_wp2_with fail
              go_roundw
              case rel => exact ⟨k + 1, FE, by omega, by go_num, TE2.out⟩
              case measure => simp [intOf]; omega
        · obtain rfl : k = nh := by omega
          have TE : Hid (LayN F0 w wz g (xs ++ topoTail up hp)) := by
            show LayN _ _ _ _ _
            have := t.end_
            rw [List.take_of_length_le (by rw [L2.out]; exact Nat.le_refl _), HY.out] at this
            exact this.later K2.out
          clear t x2 x3 cl nh' hU hH ng hFB hBw
          go_wp2_with fail
          go_end0
          exact ⟨rfl, TE.out⟩
end Go.Proofs.YtifopodnceopjaaGreatDoor
