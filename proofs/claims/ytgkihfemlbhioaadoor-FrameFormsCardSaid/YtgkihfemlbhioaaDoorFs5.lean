/- The document's own frames: May. -/
import Derived.Test.YtgkihfemlbhioaaDoorFs3
import Derived.Test.YtgkihfemlbhioaaDoorFs4
import Derived.Test.YtgkihfemlbhioaaDoorFrp
namespace Go.Proofs.YtgkihfemlbhioaaDoor
open Go.RowKit Fr
set_option linter.unusedVariables false
set_option linter.unusedSimpArgs false
set_option maxRecDepth 100000 in
set_option maxHeartbeats 32000000 in
theorem rmay_any (m : FrM) (f : FrV) (w : World) (hf : FrIn w w.heap.size m f) :
    Calls Tryd.prog 15 #[.agg (frCells m f)] w fun e w' => e = .returned (.bool (decide (MayF f))) ∧ Keep w w' := by
  obtain ⟨w2, hw2⟩ : ∃ w2, w.alloc (.cells (frCells m f) 32) = w2 := ⟨_, rfl⟩
  obtain ⟨k2, hbox⟩ := fr_box w _ m f hw2
  have HI := Lib.hid hf
  have HBARE := Lib.hid (fun wx => bare_any m f wx)
  obtain ⟨q, hq⟩ : ∃ q, decide (MayF f) = q := ⟨_, rfl⟩
  rw [hq]
  have QN : Hid (¬ MayF f → q = false) := fun e => by rw [← hq]; exact decide_eq_false e
  have QY : Hid (MayF f → q = true) := fun e => by rw [← hq]; exact decide_eq_true e
  obtain ⟨t, ht⟩ : ∃ t, decide (bareF f = f) = t := ⟨_, rfl⟩
  have HT := Lib.hid ht
  have HSAME := Lib.hid (fun (wx : World) (kx : Keep w wx) => rsame_any (bareM m f.kind) m (bareF f) f wx (hf.later kx).bare (hf.later kx))
  rw [ht] at HSAME
  have rb : frCells (bareM m f.kind) (bareF f) = frCells (bareM m f.kind) (bareF f) := rfl
  obtain ⟨CB, hCB⟩ : ∃ CB, frCells (bareM m f.kind) (bareF f) = CB := ⟨_, rfl⟩
  rw [hCB] at HBARE HSAME
  clear hq ht hf rb hCB
  have FH : Hid (f = f) := rfl
  obtain ⟨k, s, d, ep, lf, fl, gn, sq, fo, co, pay, rk, te, up, hp⟩ := f
  obtain ⟨⟨Ac, nc, cc⟩, ⟨Ap, np, cp⟩, ⟨Ar, nr, cr⟩, ⟨Au, nu, cu⟩, ⟨Ah, nh, ch⟩⟩ := m
  obtain ⟨⟨x0, x1, x2, x3, x4⟩, ⟨x5, x6, x7, x8⟩, ⟨x9, x10, x11⟩, x12, x13, x14⟩ := (hbox w2 (Keep.refl w2)).cells
  simp only [frCells] at hw2 HBARE HSAME
  obtain ⟨g, hg⟩ : ∃ g, w.heap.size = g := ⟨_, rfl⟩
  rw [hg] at hbox x0 x1 x2 x3 x4 x5 x6 x7 x8 x9 x10 x11 x12 x13 x14
  dsimp only at *
  have K2 := Lib.hid k2
  have HBOX := Lib.hid hbox
  clear k2 hbox
  simp only [frCells]
  by_cases c0 : k < 1
  · have HN : Hid (q = false) := QN.out fun e => by have := e.k1; dsimp only at this; omega
    have p0 : decide (k < 1) = true := decide_eq_true c0
    clear c0
    go_enter Tryd.func15, Tryd.ntmps15
    go_wp2_with fail
    go_quiet (fail)
    have KQ : Hid (Keep w (w2.drewN nq)) := K2.out.drewN nq
    go_wp2_with fail
    go_ret
    exact ⟨by rw [HN.out]; rfl, KQ.out⟩
  by_cases c1 : 6 < k
  · have HN : Hid (q = false) := QN.out fun e => by have := e.k6; dsimp only at this; omega
    have p0 : decide (k < 1) = false := decide_eq_false c0
    have p1 : decide (6 < k) = true := decide_eq_true c1
    clear c0 c1
    go_enter Tryd.func15, Tryd.ntmps15
    go_wp2_with fail
    go_quiet (fail)
    have KQ : Hid (Keep w (w2.drewN nq)) := K2.out.drewN nq
    go_wp2_with fail
    go_ret
    exact ⟨by rw [HN.out]; rfl, KQ.out⟩
  by_cases c2 : s < 0
  · have HN : Hid (q = false) := QN.out fun e => by have := e.s0; dsimp only at this; omega
    have p0 : decide (k < 1) = false := decide_eq_false c0
    have p1 : decide (6 < k) = false := decide_eq_false c1
    have p2 : decide (s < 0) = true := decide_eq_true c2
    clear c0 c1 c2
    go_enter Tryd.func15, Tryd.ntmps15
    go_wp2_with fail
    go_quiet (fail)
    have KQ : Hid (Keep w (w2.drewN nq)) := K2.out.drewN nq
    go_wp2_with fail
    go_ret
    exact ⟨by rw [HN.out]; rfl, KQ.out⟩
  by_cases c3 : 63 < s
  · have HN : Hid (q = false) := QN.out fun e => by have := e.s63; dsimp only at this; omega
    have p0 : decide (k < 1) = false := decide_eq_false c0
    have p1 : decide (6 < k) = false := decide_eq_false c1
    have p2 : decide (s < 0) = false := decide_eq_false c2
    have p3 : decide (63 < s) = true := decide_eq_true c3
    clear c0 c1 c2 c3
    go_enter Tryd.func15, Tryd.ntmps15
    go_wp2_with fail
    go_quiet (fail)
    have KQ : Hid (Keep w (w2.drewN nq)) := K2.out.drewN nq
    go_wp2_with fail
    go_ret
    exact ⟨by rw [HN.out]; rfl, KQ.out⟩
  by_cases c4 : d < 0
  · have HN : Hid (q = false) := QN.out fun e => by have := e.d0; dsimp only at this; omega
    have p0 : decide (k < 1) = false := decide_eq_false c0
    have p1 : decide (6 < k) = false := decide_eq_false c1
    have p2 : decide (s < 0) = false := decide_eq_false c2
    have p3 : decide (63 < s) = false := decide_eq_false c3
    have p4 : decide (d < 0) = true := decide_eq_true c4
    clear c0 c1 c2 c3 c4
    go_enter Tryd.func15, Tryd.ntmps15
    go_wp2_with fail
    go_quiet (fail)
    have KQ : Hid (Keep w (w2.drewN nq)) := K2.out.drewN nq
    go_wp2_with fail
    go_ret
    exact ⟨by rw [HN.out]; rfl, KQ.out⟩
  by_cases c5 : 63 < d
  · have HN : Hid (q = false) := QN.out fun e => by have := e.d63; dsimp only at this; omega
    have p0 : decide (k < 1) = false := decide_eq_false c0
    have p1 : decide (6 < k) = false := decide_eq_false c1
    have p2 : decide (s < 0) = false := decide_eq_false c2
    have p3 : decide (63 < s) = false := decide_eq_false c3
    have p4 : decide (d < 0) = false := decide_eq_false c4
    have p5 : decide (63 < d) = true := decide_eq_true c5
    clear c0 c1 c2 c3 c4 c5
    go_enter Tryd.func15, Tryd.ntmps15
    go_wp2_with fail
    go_quiet (fail)
    have KQ : Hid (Keep w (w2.drewN nq)) := K2.out.drewN nq
    go_wp2_with fail
    go_ret
    exact ⟨by rw [HN.out]; rfl, KQ.out⟩
  by_cases c6 : (1125899906842624 : Int) < (ep : Int)
  · have HN : Hid (q = false) := QN.out fun e => by have := e.ep; dsimp only at this; omega
    have p0 : decide (k < 1) = false := decide_eq_false c0
    have p1 : decide (6 < k) = false := decide_eq_false c1
    have p2 : decide (s < 0) = false := decide_eq_false c2
    have p3 : decide (63 < s) = false := decide_eq_false c3
    have p4 : decide (d < 0) = false := decide_eq_false c4
    have p5 : decide (63 < d) = false := decide_eq_false c5
    have p6 : decide ((1125899906842624 : Int) < (ep : Int)) = true := decide_eq_true c6
    clear c0 c1 c2 c3 c4 c5 c6
    go_enter Tryd.func15, Tryd.ntmps15
    go_wp2_with fail
    go_quiet (fail)
    have KQ : Hid (Keep w (w2.drewN nq)) := K2.out.drewN nq
    go_wp2_with fail
    go_ret
    exact ⟨by rw [HN.out]; rfl, KQ.out⟩
  by_cases c7 : (1125899906842624 : Int) < (lf : Int)
  · have HN : Hid (q = false) := QN.out fun e => by have := e.life; dsimp only at this; omega
    have p0 : decide (k < 1) = false := decide_eq_false c0
    have p1 : decide (6 < k) = false := decide_eq_false c1
    have p2 : decide (s < 0) = false := decide_eq_false c2
    have p3 : decide (63 < s) = false := decide_eq_false c3
    have p4 : decide (d < 0) = false := decide_eq_false c4
    have p5 : decide (63 < d) = false := decide_eq_false c5
    have p6 : decide ((1125899906842624 : Int) < (ep : Int)) = false := decide_eq_false c6
    have p7 : decide ((1125899906842624 : Int) < (lf : Int)) = true := decide_eq_true c7
    clear c0 c1 c2 c3 c4 c5 c6 c7
    go_enter Tryd.func15, Tryd.ntmps15
    go_wp2_with fail
    go_quiet (fail)
    have KQ : Hid (Keep w (w2.drewN nq)) := K2.out.drewN nq
    go_wp2_with fail
    go_ret
    exact ⟨by rw [HN.out]; rfl, KQ.out⟩
  have p0 : decide (k < 1) = false := decide_eq_false c0
  have p1 : decide (6 < k) = false := decide_eq_false c1
  have p2 : decide (s < 0) = false := decide_eq_false c2
  have p3 : decide (63 < s) = false := decide_eq_false c3
  have p4 : decide (d < 0) = false := decide_eq_false c4
  have p5 : decide (63 < d) = false := decide_eq_false c5
  have p6 : decide ((1125899906842624 : Int) < (ep : Int)) = false := decide_eq_false c6
  have p7 : decide ((1125899906842624 : Int) < (lf : Int)) = false := decide_eq_false c7
  have CC : Hid ((1 ≤ k ∧ k ≤ 6) ∧ (0 ≤ s ∧ s ≤ 63) ∧ (0 ≤ d ∧ d ≤ 63) ∧ ep ≤ 1125899906842624 ∧ lf ≤ 1125899906842624) := ⟨⟨by omega, by omega⟩, ⟨by omega, by omega⟩, ⟨by omega, by omega⟩, by omega, by omega⟩
  clear c0 c1 c2 c3 c4 c5 c6 c7
  go_enter Tryd.func15, Tryd.ntmps15
  go_wp2_with fail
  refine wp_region_noPanic ?_
  refine wp_region_held_drew (S := fun wz => Keep w2 wz) (by kernel_rfl) (Keep.drew (Keep.refl _)) (fun hHeld => ?_)
  refine wpAnyH_take (i := 0) (v := ?_) rfl (by kernel_rfl) (by kernel_rfl) (by kernel_rfl) (fun _ _ _ h => h) (Or.inl ⟨by rfl, ?_⟩) hHeld ?_
  rotate_left
  · intro wq hSw
    go_simp
    all_goals with_reducible rfl
  try simp only [Act.put, List.getElem_toArray, List.getElem_cons_succ, List.getElem_cons_zero, List.setIfInBounds_toArray, List.set_cons_zero, List.set_cons_succ]
  refine wpAnyH_take (i := 1) (v := ?_) rfl (by kernel_rfl) (by kernel_rfl) (by kernel_rfl) (fun _ _ _ h => h) (Or.inl ⟨by rfl, ?_⟩) hHeld ?_
  rotate_left
  · intro wq hSw
    obtain ⟨⟨y0, y1, y2, y3, y4⟩, _⟩ := (HBOX.out wq hSw).cells
    go_simp
    all_goals with_reducible rfl
  try simp only [Act.put, List.getElem_toArray, List.getElem_cons_succ, List.getElem_cons_zero, List.setIfInBounds_toArray, List.set_cons_zero, List.set_cons_succ]
  refine wpAnyH_take (i := 2) (v := ?_) rfl (by kernel_rfl) (by kernel_rfl) (by kernel_rfl) (fun _ _ _ h => h) (Or.inl ⟨by rfl, ?_⟩) hHeld ?_
  rotate_left
  · intro wq hSw
    go_simp
    all_goals with_reducible rfl
  try simp only [Act.put, List.getElem_toArray, List.getElem_cons_succ, List.getElem_cons_zero, List.setIfInBounds_toArray, List.set_cons_zero, List.set_cons_succ]
  refine wpAnyH_take (i := 3) (v := ?_) rfl (by kernel_rfl) (by kernel_rfl) (by kernel_rfl) (fun _ _ _ h => h) (Or.inl ⟨by rfl, ?_⟩) hHeld ?_
  rotate_left
  · intro wq hSw
    go_simp
    all_goals with_reducible rfl
  try simp only [Act.put, List.getElem_toArray, List.getElem_cons_succ, List.getElem_cons_zero, List.setIfInBounds_toArray, List.set_cons_zero, List.set_cons_succ]
  refine wpAnyH_take (i := 4) (v := ?_) rfl (by kernel_rfl) (by kernel_rfl) (by kernel_rfl) (fun _ _ _ h => h) (Or.inl ⟨by rfl, ?_⟩) hHeld ?_
  rotate_left
  · intro wq hSw
    go_simp
    all_goals with_reducible rfl
  try simp only [Act.put, List.getElem_toArray, List.getElem_cons_succ, List.getElem_cons_zero, List.setIfInBounds_toArray, List.set_cons_zero, List.set_cons_succ]
  refine wpAnyH_take (i := 5) (v := ?_) rfl (by kernel_rfl) (by kernel_rfl) (by kernel_rfl) (fun _ _ _ h => h) (Or.inl ⟨by rfl, ?_⟩) hHeld ?_
  rotate_left
  · intro wq hSw
    obtain ⟨⟨y0, y1, y2, y3, y4⟩, _⟩ := (HBOX.out wq hSw).cells
    go_simp
    all_goals with_reducible rfl
  try simp only [Act.put, List.getElem_toArray, List.getElem_cons_succ, List.getElem_cons_zero, List.setIfInBounds_toArray, List.set_cons_zero, List.set_cons_succ]
  refine wpAnyH_take (i := 6) (v := ?_) rfl (by kernel_rfl) (by kernel_rfl) (by kernel_rfl) (fun _ _ _ h => h) (Or.inl ⟨by rfl, ?_⟩) hHeld ?_
  rotate_left
  · intro wq hSw
    go_simp
    all_goals with_reducible rfl
  try simp only [Act.put, List.getElem_toArray, List.getElem_cons_succ, List.getElem_cons_zero, List.setIfInBounds_toArray, List.set_cons_zero, List.set_cons_succ]
  refine wpAnyH_take (i := 7) (v := ?_) rfl (by kernel_rfl) (by kernel_rfl) (by kernel_rfl) (fun _ _ _ h => h) (Or.inl ⟨by rfl, ?_⟩) hHeld ?_
  rotate_left
  · intro wq hSw
    go_simp
    all_goals with_reducible rfl
  try simp only [Act.put, List.getElem_toArray, List.getElem_cons_succ, List.getElem_cons_zero, List.setIfInBounds_toArray, List.set_cons_zero, List.set_cons_succ]
  refine wpAnyH_take (i := 8) (v := ?_) rfl (by kernel_rfl) (by kernel_rfl) (by kernel_rfl) (fun _ _ _ h => h) (Or.inl ⟨by rfl, ?_⟩) hHeld ?_
  rotate_left
  · intro wq hSw
    go_simp
    all_goals with_reducible rfl
  try simp only [Act.put, List.getElem_toArray, List.getElem_cons_succ, List.getElem_cons_zero, List.setIfInBounds_toArray, List.set_cons_zero, List.set_cons_succ]
  refine wpAnyH_take (i := 9) (v := ?_) rfl (by kernel_rfl) (by kernel_rfl) (by kernel_rfl) (fun _ _ _ h => h) (Or.inl ⟨by rfl, ?_⟩) hHeld ?_
  rotate_left
  · intro wq hSw
    go_simp
    all_goals with_reducible rfl
  try simp only [Act.put, List.getElem_toArray, List.getElem_cons_succ, List.getElem_cons_zero, List.setIfInBounds_toArray, List.set_cons_zero, List.set_cons_succ]
  refine wpAnyH_take (i := 10) (v := ?_) rfl (by kernel_rfl) (by kernel_rfl) (by kernel_rfl) (fun _ _ _ h => h) (Or.inl ⟨by rfl, ?_⟩) hHeld ?_
  rotate_left
  · intro wq hSw
    obtain ⟨⟨y0, y1, y2, y3, y4⟩, _⟩ := (HBOX.out wq hSw).cells
    go_simp
    all_goals with_reducible rfl
  try simp only [Act.put, List.getElem_toArray, List.getElem_cons_succ, List.getElem_cons_zero, List.setIfInBounds_toArray, List.set_cons_zero, List.set_cons_succ]
  refine wpAnyH_take (i := 11) (v := ?_) rfl (by kernel_rfl) (by kernel_rfl) (by kernel_rfl) (fun _ _ _ h => h) (Or.inl ⟨by rfl, ?_⟩) hHeld ?_
  rotate_left
  · intro wq hSw
    go_simp
    all_goals with_reducible rfl
  try simp only [Act.put, List.getElem_toArray, List.getElem_cons_succ, List.getElem_cons_zero, List.setIfInBounds_toArray, List.set_cons_zero, List.set_cons_succ]
  refine wpAnyH_take (i := 12) (v := ?_) rfl (by kernel_rfl) (by kernel_rfl) (by kernel_rfl) (fun _ _ _ h => h) (Or.inl ⟨by rfl, ?_⟩) hHeld ?_
  rotate_left
  · intro wq hSw
    go_simp
    all_goals with_reducible rfl
  try simp only [Act.put, List.getElem_toArray, List.getElem_cons_succ, List.getElem_cons_zero, List.setIfInBounds_toArray, List.set_cons_zero, List.set_cons_succ]
  refine wpAnyH_take (i := 13) (v := ?_) rfl (by kernel_rfl) (by kernel_rfl) (by kernel_rfl) (fun _ _ _ h => h) (Or.inl ⟨by rfl, ?_⟩) hHeld ?_
  rotate_left
  · intro wq hSw
    go_simp
    all_goals with_reducible rfl
  try simp only [Act.put, List.getElem_toArray, List.getElem_cons_succ, List.getElem_cons_zero, List.setIfInBounds_toArray, List.set_cons_zero, List.set_cons_succ]
  refine wpAnyH_take (i := 14) (v := ?_) rfl (by kernel_rfl) (by kernel_rfl) (by kernel_rfl) (fun _ _ _ h => h) (Or.inl ⟨by rfl, ?_⟩) hHeld ?_
  rotate_left
  · intro wq hSw
    go_simp
    all_goals with_reducible rfl
  try simp only [Act.put, List.getElem_toArray, List.getElem_cons_succ, List.getElem_cons_zero, List.setIfInBounds_toArray, List.set_cons_zero, List.set_cons_succ]
  refine wpAnyH_take (i := 15) (v := ?_) rfl (by kernel_rfl) (by kernel_rfl) (by kernel_rfl) (fun _ _ _ h => h) (Or.inl ⟨by rfl, ?_⟩) hHeld ?_
  rotate_left
  · intro wq hSw
    obtain ⟨⟨y0, y1, y2, y3, y4⟩, _⟩ := (HBOX.out wq hSw).cells
    go_simp
    all_goals with_reducible rfl
  try simp only [Act.put, List.getElem_toArray, List.getElem_cons_succ, List.getElem_cons_zero, List.setIfInBounds_toArray, List.set_cons_zero, List.set_cons_succ]
  refine wpAnyH_take (i := 16) (v := ?_) rfl (by kernel_rfl) (by kernel_rfl) (by kernel_rfl) (fun _ _ _ h => h) (Or.inl ⟨by rfl, ?_⟩) hHeld ?_
  rotate_left
  · intro wq hSw
    go_simp
    all_goals with_reducible rfl
  try simp only [Act.put, List.getElem_toArray, List.getElem_cons_succ, List.getElem_cons_zero, List.setIfInBounds_toArray, List.set_cons_zero, List.set_cons_succ]
  refine wpAnyH_take (i := 17) (v := ?_) rfl (by kernel_rfl) (by kernel_rfl) (by kernel_rfl) (fun _ _ _ h => h) (Or.inl ⟨by rfl, ?_⟩) hHeld ?_
  rotate_left
  · intro wq hSw
    go_simp
    all_goals with_reducible rfl
  try simp only [Act.put, List.getElem_toArray, List.getElem_cons_succ, List.getElem_cons_zero, List.setIfInBounds_toArray, List.set_cons_zero, List.set_cons_succ]
  refine wpAnyH_take (i := 18) (v := ?_) rfl (by kernel_rfl) (by kernel_rfl) (by kernel_rfl) (fun _ _ _ h => h) (Or.inl ⟨by rfl, ?_⟩) hHeld ?_
  rotate_left
  · intro wq hSw
    go_simp
    all_goals with_reducible rfl
  try simp only [Act.put, List.getElem_toArray, List.getElem_cons_succ, List.getElem_cons_zero, List.setIfInBounds_toArray, List.set_cons_zero, List.set_cons_succ]
  refine wpAnyH_take (i := 19) (v := ?_) rfl (by kernel_rfl) (by kernel_rfl) (by kernel_rfl) (fun _ _ _ h => h) (Or.inl ⟨by rfl, ?_⟩) hHeld ?_
  rotate_left
  · intro wq hSw
    go_simp
    all_goals with_reducible rfl
  try simp only [Act.put, List.getElem_toArray, List.getElem_cons_succ, List.getElem_cons_zero, List.setIfInBounds_toArray, List.set_cons_zero, List.set_cons_succ]
  refine wpAnyH_take (i := 20) (v := ?_) rfl (by kernel_rfl) (by kernel_rfl) (by kernel_rfl) (fun _ _ _ h => h) (Or.inl ⟨by rfl, ?_⟩) hHeld ?_
  rotate_left
  · intro wq hSw
    obtain ⟨⟨y0, y1, y2, y3, y4⟩, _⟩ := (HBOX.out wq hSw).cells
    go_simp
    all_goals with_reducible rfl
  try simp only [Act.put, List.getElem_toArray, List.getElem_cons_succ, List.getElem_cons_zero, List.setIfInBounds_toArray, List.set_cons_zero, List.set_cons_succ]
  refine wpAnyH_take (i := 21) (v := ?_) rfl (by kernel_rfl) (by kernel_rfl) (by kernel_rfl) (fun _ _ _ h => h) (Or.inl ⟨by rfl, ?_⟩) hHeld ?_
  rotate_left
  · intro wq hSw
    go_simp
    all_goals with_reducible rfl
  try simp only [Act.put, List.getElem_toArray, List.getElem_cons_succ, List.getElem_cons_zero, List.setIfInBounds_toArray, List.set_cons_zero, List.set_cons_succ]
  refine wpAnyH_take (i := 22) (v := ?_) rfl (by kernel_rfl) (by kernel_rfl) (by kernel_rfl) (fun _ _ _ h => h) (Or.inl ⟨by rfl, ?_⟩) hHeld ?_
  rotate_left
  · intro wq hSw
    go_simp
    all_goals with_reducible rfl
  try simp only [Act.put, List.getElem_toArray, List.getElem_cons_succ, List.getElem_cons_zero, List.setIfInBounds_toArray, List.set_cons_zero, List.set_cons_succ]
  refine wpAnyH_take (i := 23) (v := ?_) rfl (by kernel_rfl) (by kernel_rfl) (by kernel_rfl) (fun _ _ _ h => h) (Or.inl ⟨by rfl, ?_⟩) hHeld ?_
  rotate_left
  · intro wq hSw
    go_simp
    all_goals with_reducible rfl
  try simp only [Act.put, List.getElem_toArray, List.getElem_cons_succ, List.getElem_cons_zero, List.setIfInBounds_toArray, List.set_cons_zero, List.set_cons_succ]
  refine wpAnyH_take (i := 24) (v := ?_) rfl (by kernel_rfl) (by kernel_rfl) (by kernel_rfl) (fun _ _ _ h => h) (Or.inl ⟨by rfl, ?_⟩) hHeld ?_
  rotate_left
  · intro wq hSw
    go_simp
    all_goals with_reducible rfl
  try simp only [Act.put, List.getElem_toArray, List.getElem_cons_succ, List.getElem_cons_zero, List.setIfInBounds_toArray, List.set_cons_zero, List.set_cons_succ]
  refine wpAnyH_take (i := 25) (v := ?_) rfl (by kernel_rfl) (by kernel_rfl) (by kernel_rfl) (fun _ _ _ h => h) (Or.inl ⟨by rfl, ?_⟩) hHeld ?_
  rotate_left
  · intro wq hSw
    obtain ⟨⟨y0, y1, y2, y3, y4⟩, _⟩ := (HBOX.out wq hSw).cells
    go_simp
    all_goals with_reducible rfl
  try simp only [Act.put, List.getElem_toArray, List.getElem_cons_succ, List.getElem_cons_zero, List.setIfInBounds_toArray, List.set_cons_zero, List.set_cons_succ]
  refine wpAnyH_take (i := 26) (v := ?_) rfl (by kernel_rfl) (by kernel_rfl) (by kernel_rfl) (fun _ _ _ h => h) (Or.inl ⟨by rfl, ?_⟩) hHeld ?_
  rotate_left
  · intro wq hSw
    go_simp
    all_goals with_reducible rfl
  try simp only [Act.put, List.getElem_toArray, List.getElem_cons_succ, List.getElem_cons_zero, List.setIfInBounds_toArray, List.set_cons_zero, List.set_cons_succ]
  refine wpAnyH_take (i := 27) (v := ?_) rfl (by kernel_rfl) (by kernel_rfl) (by kernel_rfl) (fun _ _ _ h => h) (Or.inl ⟨by rfl, ?_⟩) hHeld ?_
  rotate_left
  · intro wq hSw
    go_simp
    all_goals with_reducible rfl
  try simp only [Act.put, List.getElem_toArray, List.getElem_cons_succ, List.getElem_cons_zero, List.setIfInBounds_toArray, List.set_cons_zero, List.set_cons_succ]
  refine wpAnyH_take (i := 28) (v := ?_) rfl (by kernel_rfl) (by kernel_rfl) (by kernel_rfl) (fun _ _ _ h => h) (Or.inl ⟨by rfl, ?_⟩) hHeld ?_
  rotate_left
  · intro wq hSw
    go_simp
    all_goals with_reducible rfl
  try simp only [Act.put, List.getElem_toArray, List.getElem_cons_succ, List.getElem_cons_zero, List.setIfInBounds_toArray, List.set_cons_zero, List.set_cons_succ]
  refine wpAnyH_take (i := 29) (v := ?_) rfl (by kernel_rfl) (by kernel_rfl) (by kernel_rfl) (fun _ _ _ h => h) (Or.inl ⟨by rfl, ?_⟩) hHeld ?_
  rotate_left
  · intro wq hSw
    go_simp
    all_goals with_reducible rfl
  try simp only [Act.put, List.getElem_toArray, List.getElem_cons_succ, List.getElem_cons_zero, List.setIfInBounds_toArray, List.set_cons_zero, List.set_cons_succ]
  refine wpAnyH_take (i := 30) (v := ?_) rfl (by kernel_rfl) (by kernel_rfl) (by kernel_rfl) (fun _ _ _ h => h) (Or.inl ⟨by rfl, ?_⟩) hHeld ?_
  rotate_left
  · intro wq hSw
    obtain ⟨⟨y0, y1, y2, y3, y4⟩, _⟩ := (HBOX.out wq hSw).cells
    go_simp
    all_goals with_reducible rfl
  try simp only [Act.put, List.getElem_toArray, List.getElem_cons_succ, List.getElem_cons_zero, List.setIfInBounds_toArray, List.set_cons_zero, List.set_cons_succ]
  refine wpAnyH_take (i := 31) (v := ?_) rfl (by kernel_rfl) (by kernel_rfl) (by kernel_rfl) (fun _ _ _ h => h) (Or.inl ⟨by rfl, ?_⟩) hHeld ?_
  rotate_left
  · intro wq hSw
    go_simp
    all_goals with_reducible rfl
  try simp only [Act.put, List.getElem_toArray, List.getElem_cons_succ, List.getElem_cons_zero, List.setIfInBounds_toArray, List.set_cons_zero, List.set_cons_succ]
  refine wpAnyH_take (i := 32) (v := ?_) rfl (by kernel_rfl) (by kernel_rfl) (by kernel_rfl) (fun _ _ _ h => h) (Or.inl ⟨by rfl, ?_⟩) hHeld ?_
  rotate_left
  · intro wq hSw
    go_simp
    all_goals with_reducible rfl
  try simp only [Act.put, List.getElem_toArray, List.getElem_cons_succ, List.getElem_cons_zero, List.setIfInBounds_toArray, List.set_cons_zero, List.set_cons_succ]
  refine wpAnyH_take (i := 33) (v := ?_) rfl (by kernel_rfl) (by kernel_rfl) (by kernel_rfl) (fun _ _ _ h => h) (Or.inl ⟨by rfl, ?_⟩) hHeld ?_
  rotate_left
  · intro wq hSw
    go_simp
    all_goals with_reducible rfl
  try simp only [Act.put, List.getElem_toArray, List.getElem_cons_succ, List.getElem_cons_zero, List.setIfInBounds_toArray, List.set_cons_zero, List.set_cons_succ]
  refine wpAnyH_take (i := 34) (v := ?_) rfl (by kernel_rfl) (by kernel_rfl) (by kernel_rfl) (fun _ _ _ h => h) (Or.inl ⟨by rfl, ?_⟩) hHeld ?_
  rotate_left
  · intro wq hSw
    go_simp
    all_goals with_reducible rfl
  try simp only [Act.put, List.getElem_toArray, List.getElem_cons_succ, List.getElem_cons_zero, List.setIfInBounds_toArray, List.set_cons_zero, List.set_cons_succ]
  refine wpAnyH_take (i := 35) (v := ?_) rfl (by kernel_rfl) (by kernel_rfl) (by kernel_rfl) (fun _ _ _ h => h) (Or.inl ⟨by rfl, ?_⟩) hHeld ?_
  rotate_left
  · intro wq hSw
    obtain ⟨⟨y0, y1, y2, y3, y4⟩, _⟩ := (HBOX.out wq hSw).cells
    go_simp
    all_goals with_reducible rfl
  try simp only [Act.put, List.getElem_toArray, List.getElem_cons_succ, List.getElem_cons_zero, List.setIfInBounds_toArray, List.set_cons_zero, List.set_cons_succ]
  refine wpAnyH_take (i := 36) (v := ?_) rfl (by kernel_rfl) (by kernel_rfl) (by kernel_rfl) (fun _ _ _ h => h) (Or.inl ⟨by rfl, ?_⟩) hHeld ?_
  rotate_left
  · intro wq hSw
    go_simp
    all_goals with_reducible rfl
  try simp only [Act.put, List.getElem_toArray, List.getElem_cons_succ, List.getElem_cons_zero, List.setIfInBounds_toArray, List.set_cons_zero, List.set_cons_succ]
  refine wpAnyH_take (i := 37) (v := ?_) rfl (by kernel_rfl) (by kernel_rfl) (by kernel_rfl) (fun _ _ _ h => h) (Or.inl ⟨by rfl, ?_⟩) hHeld ?_
  rotate_left
  · intro wq hSw
    go_simp
    all_goals with_reducible rfl
  try simp only [Act.put, List.getElem_toArray, List.getElem_cons_succ, List.getElem_cons_zero, List.setIfInBounds_toArray, List.set_cons_zero, List.set_cons_succ]
  refine wpAnyH_take (i := 38) (v := ?_) rfl (by kernel_rfl) (by kernel_rfl) (by kernel_rfl) (fun _ _ _ h => h) (Or.inl ⟨by rfl, ?_⟩) hHeld ?_
  rotate_left
  · intro wq hSw
    go_simp
    all_goals with_reducible rfl
  try simp only [Act.put, List.getElem_toArray, List.getElem_cons_succ, List.getElem_cons_zero, List.setIfInBounds_toArray, List.set_cons_zero, List.set_cons_succ]
  refine wpAnyH_take (i := 39) (v := ?_) rfl (by kernel_rfl) (by kernel_rfl) (by kernel_rfl) (fun _ _ _ h => h) (Or.inl ⟨by rfl, ?_⟩) hHeld ?_
  rotate_left
  · intro wq hSw
    obtain ⟨⟨y0, y1, y2, y3, y4⟩, ⟨y5, y6, y7, y8⟩, ⟨y9, y10, y11⟩, y12, y13, y14⟩ := (HBOX.out wq hSw).cells
    go_simp
    all_goals with_reducible rfl
  try simp only [Act.put, List.getElem_toArray, List.getElem_cons_succ, List.getElem_cons_zero, List.setIfInBounds_toArray, List.set_cons_zero, List.set_cons_succ]
  refine wpAnyH_take (i := 41) (v := ?_) rfl (by kernel_rfl) (by kernel_rfl) (by kernel_rfl) (fun _ _ _ h => h) (Or.inl ⟨by rfl, ?_⟩) hHeld ?_
  rotate_left
  · intro wq hSw
    obtain ⟨⟨y0, y1, y2, y3, y4⟩, ⟨y5, y6, y7, y8⟩, ⟨y9, y10, y11⟩, y12, y13, y14⟩ := (HBOX.out wq hSw).cells
    go_simp
    all_goals with_reducible rfl
  try simp only [Act.put, List.getElem_toArray, List.getElem_cons_succ, List.getElem_cons_zero, List.setIfInBounds_toArray, List.set_cons_zero, List.set_cons_succ]
  refine wpAnyH_ready (rs := [40]) (by kernel_rfl) (by simp) ?_
  refine AllReadyH.cons rfl (fun K hK => ?_) AllReadyH.nil
  go_simp
  refine (HBARE.out _).mono ?_
  rintro e w3 ⟨rfl, k3⟩
  have HK3 : Keep w2 w3 := Keep.trans hHeld k3
  have hKp : Keep w2 w3 := HK3
  refine hK.out _ _ hKp (fun _ => ?_)
  clear hK K hHeld
  refine wpAnyH_strong (S' := fun wz => Keep w3 wz) (fun wz h => Keep.trans hKp h) _ _ _ _ ?_
  have hHeld : Keep w3 w3 := Keep.refl _
  try simp only [Act.put, List.getElem_toArray, List.getElem_cons_succ, List.getElem_cons_zero, List.setIfInBounds_toArray, List.set_cons_zero, List.set_cons_succ]
  refine wpAnyH_ready (rs := [42]) (by kernel_rfl) (by simp) ?_
  refine AllReadyH.cons rfl (fun K hK => ?_) AllReadyH.nil
  go_simp
  refine (HSAME.out _ (K2.out.trans (HK3.trans hHeld))).mono ?_
  rintro e w4 ⟨rfl, k4⟩
  have HK4 : Keep w3 w4 := Keep.trans hHeld k4
  have hKp : Keep w3 w4 := HK4
  refine hK.out _ _ hKp (fun _ => ?_)
  clear hK K hHeld
  refine wpAnyH_strong (S' := fun wz => Keep w4 wz) (fun wz h => Keep.trans hKp h) _ _ _ _ ?_
  have hHeld : Keep w4 w4 := Keep.refl _
  try simp only [Act.put, List.getElem_toArray, List.getElem_cons_succ, List.getElem_cons_zero, List.setIfInBounds_toArray, List.set_cons_zero, List.set_cons_succ]
  refine wpAnyH_take (i := 43) (v := ?_) rfl (by kernel_rfl) (by kernel_rfl) (by kernel_rfl) (fun _ _ _ h => h) (Or.inl ⟨by rfl, ?_⟩) hHeld ?_
  rotate_left
  · intro wq hSw
    go_simp
    all_goals with_reducible rfl
  try simp only [Act.put, List.getElem_toArray, List.getElem_cons_succ, List.getElem_cons_zero, List.setIfInBounds_toArray, List.set_cons_zero, List.set_cons_succ]
  refine wpAnyH_take (i := 44) (v := ?_) rfl (by kernel_rfl) (by kernel_rfl) (by kernel_rfl) (fun _ _ _ h => h) (Or.inl ⟨by rfl, ?_⟩) hHeld ?_
  rotate_left
  · intro wq hSw
    go_simp
    all_goals with_reducible rfl
  try simp only [Act.put, List.getElem_toArray, List.getElem_cons_succ, List.getElem_cons_zero, List.setIfInBounds_toArray, List.set_cons_zero, List.set_cons_succ]
  refine wpAnyH_done (by kernel_rfl) ?_ _
  refine NoPanic.normal ?_
  clear hHeld
  have K4 : Hid (Keep w w4) := K2.out.trans (Keep.trans HK3 HK4)
  have HB4 : Hid (∀ wr, Keep w4 wr → FrBox wr g 32 ⟨⟨Ac, nc, cc⟩, ⟨Ap, np, cp⟩, ⟨Ar, nr, cr⟩, ⟨Au, nu, cu⟩, ⟨Ah, nh, ch⟩⟩ ⟨k, s, d, ep, lf, fl, gn, sq, fo, co, pay, rk, te, up, hp⟩) := fun wr kp => HBOX.out wr ((Keep.trans HK3 HK4).trans kp)
  clear hKp HK3 HK4 x0 x1 x2 x3 x4 x5 x6 x7 x8 x9 x10 x11 x12 x13 x14 p0 p1 p2 p3 p4 p5 p6 p7
  cases t with
  | false =>
    have HN : Hid (q = false) := QN.out fun e => by have := HT.out; rw [decide_eq_true e.bare] at this; cases this
    go_wp2_with fail
    go_ret
    exact ⟨by rw [HN.out]; rfl, K4.out⟩
  | true =>
    have HBR := Lib.hid (of_decide_eq_true HT.out)
    obtain ⟨⟨x0, x1, x2, x3, x4⟩, ⟨x5, x6, x7, x8⟩, ⟨x9, x10, x11⟩, x12, x13, x14⟩ := (HB4.out w4 (Keep.refl w4)).cells
    dsimp only at x0 x1 x2 x3 x4 x5 x6 x7 x8 x9 x10 x11 x12 x13 x14
    by_cases k5 : k = 5
    · have a0 : (k == 5) = true := beq_iff_eq.2 k5
      subst k5
      by_cases s1 : s = d
      · subst s1
        by_cases l1 : lf = 0
        · have HQ : Hid (decide (TopoOk te up hp) = q) := by
            show _ = q
            by_cases tt : TopoOk te up hp
            · rw [decide_eq_true tt]
              exact (QY.out ⟨CC.out.1.1, CC.out.1.2, CC.out.2.1.1, CC.out.2.1.2, CC.out.2.2.1.1, CC.out.2.2.1.2, CC.out.2.2.2.1, CC.out.2.2.2.2, HBR.out, fun _ => ⟨rfl, l1, tt⟩, fun e => absurd rfl e, fun e => absurd (show (5 : Int) = 1 from e) (by decide), fun e => absurd (show (5 : Int) = 2 from e) (by decide), fun e => absurd (show (5 : Int) = 3 from e) (by decide)⟩).symm
            · rw [decide_eq_false tt]
              exact (QN.out fun e => tt (e.member rfl).2.2).symm
          have HTO := Lib.hid (rmayto_any te ⟨Au, nu, cu⟩ ⟨Ah, nh, ch⟩ up hp w4 ((HI.out.later K4.out).up) ((HI.out.later K4.out).hp) HI.out.oks.2.2.2.1 HI.out.oks.2.2.2.2)
          have b1 : ((lf : Int) == 0) = true := beq_iff_eq.2 (by omega)
          clear l1
          go_wp2_with fail
          refine HTO.out.mono ?_
          rw [HQ.out]
          rintro e w9 ⟨rfl, k9⟩
          have K9 := Lib.hid (K4.out.trans k9)
          clear k9
          go_wp2_with fail
          go_ret
          exact ⟨rfl, K9.out⟩
        · have HN : Hid (q = false) := QN.out fun e => l1 (e.member rfl).2.1
          have b1 : ((lf : Int) == 0) = false := beq_eq_false_iff_ne.2 (by omega)
          go_wp2_with fail
          go_ret
          exact ⟨by rw [HN.out]; rfl, K4.out⟩
      · have HN : Hid (q = false) := QN.out fun e => s1 (e.member rfl).1
        have b1 : (s == d) = false := beq_eq_false_iff_ne.2 s1
        go_wp2_with fail
        go_ret
        exact ⟨by rw [HN.out]; rfl, K4.out⟩
    · have a0 : (k == 5) = false := beq_eq_false_iff_ne.2 k5
      have K5 : Hid (k ≠ 5) := k5
      by_cases s1 : s = d
      · have HN : Hid (q = false) := QN.out fun e => (e.other K5.out).1 s1
        subst s1
        go_wp2_with fail
        go_ret
        exact ⟨by rw [HN.out]; rfl, K4.out⟩
      have b1 : (s == d) = false := beq_eq_false_iff_ne.2 s1
      by_cases l1 : lf = 0
      · have HN : Hid (q = false) := QN.out fun e => by have := (e.other K5.out).2.1; dsimp only at this; omega
        have b2 : ((lf : Int) == 0) = true := beq_iff_eq.2 (by omega)
        clear l1
        go_wp2_with fail
        go_ret
        exact ⟨by rw [HN.out]; rfl, K4.out⟩
      have b2 : ((lf : Int) == 0) = false := beq_eq_false_iff_ne.2 (by omega)
      by_cases n1 : fl < 0
      · have HN : Hid (q = false) := QN.out fun e => by have := (e.other K5.out).2.2.1; dsimp only at this; omega
        go_wp2_with fail
        go_ret
        exact ⟨by rw [HN.out]; rfl, K4.out⟩
      by_cases n2 : 3 < fl
      · have HN : Hid (q = false) := QN.out fun e => by have := (e.other K5.out).2.2.2.1; dsimp only at this; omega
        go_wp2_with fail
        go_ret
        exact ⟨by rw [HN.out]; rfl, K4.out⟩
      by_cases n3 : (1125899906842624 : Int) < (sq : Int)
      · have HN : Hid (q = false) := QN.out fun e => by have := (e.other K5.out).2.2.2.2.1; dsimp only at this; omega
        go_wp2_with fail
        go_ret
        exact ⟨by rw [HN.out]; rfl, K4.out⟩
      by_cases n4 : (1125899906842624 : Int) < (fo : Int)
      · have HN : Hid (q = false) := QN.out fun e => by have := (e.other K5.out).2.2.2.2.2.1; dsimp only at this; omega
        go_wp2_with fail
        go_ret
        exact ⟨by rw [HN.out]; rfl, K4.out⟩
      by_cases n5 : (1099511627776 : Int) < (gn : Int)
      · have HN : Hid (q = false) := QN.out fun e => by have := (e.other K5.out).2.2.2.2.2.2; dsimp only at this; omega
        go_wp2_with fail
        go_ret
        exact ⟨by rw [HN.out]; rfl, K4.out⟩
      have OT : Hid (s ≠ d ∧ 1 ≤ lf ∧ 0 ≤ fl ∧ fl ≤ 3 ∧ sq ≤ 1125899906842624 ∧ fo ≤ 1125899906842624 ∧ gn ≤ 1099511627776) := ⟨s1, by omega, by omega, by omega, by omega, by omega, by omega⟩
      have QM : Hid ((k = 1 → gn < 1099511627776 ∧ 1 ≤ sq ∧ 1 ≤ co.length ∧ co.length < 256 ∧ 1 ≤ pay.length ∧ pay.length < 65536) → (k = 2 → RankOk gn none rk ∧ 1 ≤ sq) → (k = 3 → 1 ≤ fo) → q = true) := fun a b c =>
        QY.out ⟨CC.out.1.1, CC.out.1.2, CC.out.2.1.1, CC.out.2.1.2, CC.out.2.2.1.1, CC.out.2.2.1.2, CC.out.2.2.2.1, CC.out.2.2.2.2, HBR.out, fun e => absurd e K5.out, fun _ => OT.out, a, b, c⟩
      clear s1 l1
      go_wp2_with fail
      go_quiet (fail)
      obtain ⟨w5, hw5⟩ : ∃ w5, w4.drewN nq = w5 := ⟨_, rfl⟩
      have KQ : Hid (Keep w w5) := by rw [← hw5]; exact K4.out.drewN nq
      have HB5 : Hid (∀ wr, Keep w5 wr → FrBox wr g 32 ⟨⟨Ac, nc, cc⟩, ⟨Ap, np, cp⟩, ⟨Ar, nr, cr⟩, ⟨Au, nu, cu⟩, ⟨Ah, nh, ch⟩⟩ ⟨k, s, d, ep, lf, fl, gn, sq, fo, co, pay, rk, te, up, hp⟩) := fun wr kp => HB4.out wr (Keep.trans (by rw [← hw5]; exact (Keep.refl w4).drewN nq) kp)
      rw [hw5]
      clear hw5 HB4 K4 x0 x1 x2 x3 x4 x5 x6 x7 x8 x9 x10 x11 x12 x13 x14 b1 b2 n1 n2 n3 n4 n5 a0
      obtain ⟨⟨x0, x1, x2, x3, x4⟩, ⟨x5, x6, x7, x8⟩, ⟨x9, x10, x11⟩, x12, x13, x14⟩ := (HB5.out w5 (Keep.refl w5)).cells
      dsimp only at x0 x1 x2 x3 x4 x5 x6 x7 x8 x9 x10 x11 x12 x13 x14
      have lc := HI.out.co.length
      have lp := HI.out.pay.length
      have lr := HI.out.rk.length
      have okr := HI.out.oks.2.2.1
      dsimp only at lc lp lr
      obtain ⟨or1, or2⟩ := okr
      dsimp only at or1 or2
      rcases (show k = 1 ∨ k = 2 ∨ k = 3 ∨ k = 4 ∨ k = 6 by have := CC.out.1; omega) with rfl | rfl | rfl | rfl | rfl
      · by_cases c0 : gn < 1099511627776
        rotate_left
        · have HN : Hid (q = false) := QN.out fun e => by have := e.data rfl; dsimp only at this; omega
          have p0 : decide (gn < 1099511627776) = false := decide_eq_false c0
          have r0 : decide ((gn : Int) < (1099511627776 : Int)) = false := decide_eq_false (by omega)
          clear lc lp lr or1 or2 c0
          go_wp2_with fail
          go_ret
          exact ⟨by rw [HN.out]; rfl, KQ.out⟩
        by_cases c1 : 0 < sq
        rotate_left
        · have HN : Hid (q = false) := QN.out fun e => by have := e.data rfl; dsimp only at this; omega
          have p0 : decide (gn < 1099511627776) = true := decide_eq_true c0
          have r0 : decide ((gn : Int) < (1099511627776 : Int)) = true := decide_eq_true (by omega)
          have p1 : decide (0 < sq) = false := decide_eq_false c1
          have r1 : decide ((0 : Int) < (sq : Int)) = false := decide_eq_false (by omega)
          clear lc lp lr or1 or2 c0 c1
          go_wp2_with fail
          go_ret
          exact ⟨by rw [HN.out]; rfl, KQ.out⟩
        by_cases c2 : 0 < nc
        rotate_left
        · have HN : Hid (q = false) := QN.out fun e => by have := e.data rfl; dsimp only at this; omega
          have p0 : decide (gn < 1099511627776) = true := decide_eq_true c0
          have r0 : decide ((gn : Int) < (1099511627776 : Int)) = true := decide_eq_true (by omega)
          have p1 : decide (0 < sq) = true := decide_eq_true c1
          have r1 : decide ((0 : Int) < (sq : Int)) = true := decide_eq_true (by omega)
          have p2 : decide (0 < nc) = false := decide_eq_false c2
          have r2 : decide ((0 : Int) < (nc : Int)) = false := decide_eq_false (by omega)
          clear lc lp lr or1 or2 c0 c1 c2
          go_wp2_with fail
          go_ret
          exact ⟨by rw [HN.out]; rfl, KQ.out⟩
        by_cases c3 : nc < 256
        rotate_left
        · have HN : Hid (q = false) := QN.out fun e => by have := e.data rfl; dsimp only at this; omega
          have p0 : decide (gn < 1099511627776) = true := decide_eq_true c0
          have r0 : decide ((gn : Int) < (1099511627776 : Int)) = true := decide_eq_true (by omega)
          have p1 : decide (0 < sq) = true := decide_eq_true c1
          have r1 : decide ((0 : Int) < (sq : Int)) = true := decide_eq_true (by omega)
          have p2 : decide (0 < nc) = true := decide_eq_true c2
          have r2 : decide ((0 : Int) < (nc : Int)) = true := decide_eq_true (by omega)
          have p3 : decide (nc < 256) = false := decide_eq_false c3
          have r3 : decide ((nc : Int) < (256 : Int)) = false := decide_eq_false (by omega)
          clear lc lp lr or1 or2 c0 c1 c2 c3
          go_wp2_with fail
          go_ret
          exact ⟨by rw [HN.out]; rfl, KQ.out⟩
        by_cases c4 : 0 < np
        rotate_left
        · have HN : Hid (q = false) := QN.out fun e => by have := e.data rfl; dsimp only at this; omega
          have p0 : decide (gn < 1099511627776) = true := decide_eq_true c0
          have r0 : decide ((gn : Int) < (1099511627776 : Int)) = true := decide_eq_true (by omega)
          have p1 : decide (0 < sq) = true := decide_eq_true c1
          have r1 : decide ((0 : Int) < (sq : Int)) = true := decide_eq_true (by omega)
          have p2 : decide (0 < nc) = true := decide_eq_true c2
          have r2 : decide ((0 : Int) < (nc : Int)) = true := decide_eq_true (by omega)
          have p3 : decide (nc < 256) = true := decide_eq_true c3
          have r3 : decide ((nc : Int) < (256 : Int)) = true := decide_eq_true (by omega)
          have p4 : decide (0 < np) = false := decide_eq_false c4
          have r4 : decide ((0 : Int) < (np : Int)) = false := decide_eq_false (by omega)
          clear lc lp lr or1 or2 c0 c1 c2 c3 c4
          go_wp2_with fail
          go_ret
          exact ⟨by rw [HN.out]; rfl, KQ.out⟩
        by_cases c5 : np < 65536
        rotate_left
        · have HN : Hid (q = false) := QN.out fun e => by have := e.data rfl; dsimp only at this; omega
          have p0 : decide (gn < 1099511627776) = true := decide_eq_true c0
          have r0 : decide ((gn : Int) < (1099511627776 : Int)) = true := decide_eq_true (by omega)
          have p1 : decide (0 < sq) = true := decide_eq_true c1
          have r1 : decide ((0 : Int) < (sq : Int)) = true := decide_eq_true (by omega)
          have p2 : decide (0 < nc) = true := decide_eq_true c2
          have r2 : decide ((0 : Int) < (nc : Int)) = true := decide_eq_true (by omega)
          have p3 : decide (nc < 256) = true := decide_eq_true c3
          have r3 : decide ((nc : Int) < (256 : Int)) = true := decide_eq_true (by omega)
          have p4 : decide (0 < np) = true := decide_eq_true c4
          have r4 : decide ((0 : Int) < (np : Int)) = true := decide_eq_true (by omega)
          have p5 : decide (np < 65536) = false := decide_eq_false c5
          have r5 : decide ((np : Int) < (65536 : Int)) = false := decide_eq_false (by omega)
          clear lc lp lr or1 or2 c0 c1 c2 c3 c4 c5
          go_wp2_with fail
          go_ret
          exact ⟨by rw [HN.out]; rfl, KQ.out⟩
        have HY : Hid (q = true) := QM.out (fun _ => ⟨by omega, by omega, by omega, by omega, by omega, by omega⟩) (fun e => absurd e (by decide)) (fun e => absurd e (by decide))
        have p0 : decide (gn < 1099511627776) = true := decide_eq_true c0
        have r0 : decide ((gn : Int) < (1099511627776 : Int)) = true := decide_eq_true (by omega)
        have p1 : decide (0 < sq) = true := decide_eq_true c1
        have r1 : decide ((0 : Int) < (sq : Int)) = true := decide_eq_true (by omega)
        have p2 : decide (0 < nc) = true := decide_eq_true c2
        have r2 : decide ((0 : Int) < (nc : Int)) = true := decide_eq_true (by omega)
        have p3 : decide (nc < 256) = true := decide_eq_true c3
        have r3 : decide ((nc : Int) < (256 : Int)) = true := decide_eq_true (by omega)
        have p4 : decide (0 < np) = true := decide_eq_true c4
        have r4 : decide ((0 : Int) < (np : Int)) = true := decide_eq_true (by omega)
        have p5 : decide (np < 65536) = true := decide_eq_true c5
        have r5 : decide ((np : Int) < (65536 : Int)) = true := decide_eq_true (by omega)
        clear lc lp lr or1 or2 c0 c1 c2 c3 c4 c5
        go_wp2_with fail
        go_ret
        exact ⟨by rw [HY.out]; rfl, KQ.out⟩
      · go_wp2_with fail
        clear x0 x1 x2 x3 x4 x5 x6 x7 x8 x9 x10 x11 x12 x13 x14
        go_loopw [5] (fun iv wr => ∃ i : Nat, i ≤ nr ∧ iv = .int .i64 i ∧ (∀ j r, j < i → rk[j]? = some r → RkB gn r ∧ ∀ x, 0 < j → rk[j - 1]? = some x → x.1 < r.1) ∧ Keep w5 wr) (fun iv _ => nr - (intOf iv).toNat)
        case atStart => exact ⟨0, by omega, rfl, fun j r hj => by omega, Keep.refl w5⟩
        case round =>
          obtain ⟨i, hi, rfl, hz, kp⟩ := hrel
          obtain ⟨⟨x0, x1, x2, x3, x4⟩, ⟨x5, x6, x7, x8⟩, ⟨x9, x10, x11⟩, x12, x13, x14⟩ := (HB5.out wr kp).cells
          dsimp only at x6 x7 x11
          have HZ := Lib.hid hz
          have KP := Lib.hid kp
          have f1 : (0 : Int) ≤ (i : Int) := Int.natCast_nonneg _
          clear hz x0 x1 x2 x3 x4 x5 x8 x9 x10 x12 x13 x14
          by_cases hlt : i < nr
          · have f2 : (i : Int) < (nr : Int) := by omega
            obtain ⟨⟨ga, va⟩, he⟩ := get_some lr hlt
            obtain ⟨p, o, e1, _, s1, s2⟩ := (HI.out.rk.keep (Nat.le_refl _) (KQ.out.trans kp)).at_ he
            dsimp only at s1 s2 e1
            subst e1
            have s2 : wr.cell? ⟨p, o + i * 2 + 1, none⟩ = some (.int .i64 va) := s2
            obtain ⟨w7, hw7⟩ : ∃ w7, wr.alloc (.cells #[.int .u64 (ga : Int), .int .i64 va] 53) = w7 := ⟨_, rfl⟩
            obtain ⟨k7, t0, t1⟩ := two_box wr _ _ _ hw7
            obtain ⟨g7, hg7⟩ : ∃ g7, wr.heap.size = g7 := ⟨_, rfl⟩
            rw [hg7] at t0 t1
            obtain ⟨⟨y0, y1, y2, y3, y4⟩, ⟨y5, y6, y7, y8⟩, ⟨y9, y10, y11⟩, y12, y13, y14⟩ := (HB5.out w7 (Keep.trans kp k7)).cells
            dsimp only at y6 y7 y11
            have K7 : Hid (Keep w w7) := KQ.out.trans (Keep.trans kp k7)
            have K75 : Hid (Keep w5 w7) := Keep.trans kp k7
            clear y0 y1 y2 y3 y4 y5 y8 y9 y10 y12 y13 y14
            have gnb : gn ≤ 1099511627776 := OT.out.2.2.2.2.2.2
            have gsum : IntKind.u64.wrap ((gn : Int) + 16) = ((gn + 16 : Nat) : Int) := by rw [IntWalk.u64_in _ (by omega)]; omega
            have NEG : Hid (∀ (P : RkB gn (ga, va) → (∀ x, 0 < i → rk[i - 1]? = some x → x.1 < ga) → False), q = false) := fun P => QN.out fun e => by
              have := (ranks_iff gn rk).1 (e.feed rfl).1 i (ga, va) he
              exact P this.1 this.2
            by_cases a0 : ga < gn
            · have HN : Hid (q = false) := NEG.out fun b _ => by have := b.1; dsimp only at this; omega
              have d0 : decide (ga < gn) = true := decide_eq_true a0
              have di0 : decide ((ga : Int) < (gn : Int)) = true := decide_eq_true (by omega)
              clear kp a0
              go_wp2_with fail
              go_quiet (fail)
              have KE : Hid (Keep w (w7.drewN nq)) := K7.out.drewN nq
              go_wp2_with fail
              go_ret
              exact ⟨by rw [HN.out]; rfl, KE.out⟩
            by_cases a1 : gn + 16 ≤ ga
            · have HN : Hid (q = false) := NEG.out fun b _ => by have := b.2.1; dsimp only at this; omega
              have d0 : decide (ga < gn) = false := decide_eq_false a0
              have di0 : decide ((ga : Int) < (gn : Int)) = false := decide_eq_false (by omega)
              have d1 : decide (gn + 16 ≤ ga) = true := decide_eq_true a1
              have di1 : decide ((gn : Int) + 16 ≤ (ga : Int)) = true := decide_eq_true (by omega)
              clear kp a0 a1
              go_wp2_with fail
              go_quiet (fail)
              have KE : Hid (Keep w (w7.drewN nq)) := K7.out.drewN nq
              go_wp2_with fail
              go_ret
              exact ⟨by rw [HN.out]; rfl, KE.out⟩
            by_cases a2 : 1099511627776 ≤ ga
            · have HN : Hid (q = false) := NEG.out fun b _ => by have := b.2.2.1; dsimp only at this; omega
              have d0 : decide (ga < gn) = false := decide_eq_false a0
              have di0 : decide ((ga : Int) < (gn : Int)) = false := decide_eq_false (by omega)
              have d1 : decide (gn + 16 ≤ ga) = false := decide_eq_false a1
              have di1 : decide ((gn : Int) + 16 ≤ (ga : Int)) = false := decide_eq_false (by omega)
              have d2 : decide (1099511627776 ≤ ga) = true := decide_eq_true a2
              have di2 : decide ((1099511627776 : Int) ≤ (ga : Int)) = true := decide_eq_true (by omega)
              clear kp a0 a1 a2
              go_wp2_with fail
              go_quiet (fail)
              have KE : Hid (Keep w (w7.drewN nq)) := K7.out.drewN nq
              go_wp2_with fail
              go_ret
              exact ⟨by rw [HN.out]; rfl, KE.out⟩
            by_cases a3 : va < 1
            · have HN : Hid (q = false) := NEG.out fun b _ => by have := b.2.2.2.1; dsimp only at this; omega
              have d0 : decide (ga < gn) = false := decide_eq_false a0
              have di0 : decide ((ga : Int) < (gn : Int)) = false := decide_eq_false (by omega)
              have d1 : decide (gn + 16 ≤ ga) = false := decide_eq_false a1
              have di1 : decide ((gn : Int) + 16 ≤ (ga : Int)) = false := decide_eq_false (by omega)
              have d2 : decide (1099511627776 ≤ ga) = false := decide_eq_false a2
              have di2 : decide ((1099511627776 : Int) ≤ (ga : Int)) = false := decide_eq_false (by omega)
              have d3 : decide (va < 1) = true := decide_eq_true a3
              clear kp a0 a1 a2 a3
              go_wp2_with fail
              go_quiet (fail)
              have KE : Hid (Keep w (w7.drewN nq)) := K7.out.drewN nq
              go_wp2_with fail
              go_ret
              exact ⟨by rw [HN.out]; rfl, KE.out⟩
            by_cases a4 : 255 < va
            · have HN : Hid (q = false) := NEG.out fun b _ => by have := b.2.2.2.2; dsimp only at this; omega
              have d0 : decide (ga < gn) = false := decide_eq_false a0
              have di0 : decide ((ga : Int) < (gn : Int)) = false := decide_eq_false (by omega)
              have d1 : decide (gn + 16 ≤ ga) = false := decide_eq_false a1
              have di1 : decide ((gn : Int) + 16 ≤ (ga : Int)) = false := decide_eq_false (by omega)
              have d2 : decide (1099511627776 ≤ ga) = false := decide_eq_false a2
              have di2 : decide ((1099511627776 : Int) ≤ (ga : Int)) = false := decide_eq_false (by omega)
              have d3 : decide (va < 1) = false := decide_eq_false a3
              have d4 : decide (255 < va) = true := decide_eq_true a4
              clear kp a0 a1 a2 a3 a4
              go_wp2_with fail
              go_quiet (fail)
              have KE : Hid (Keep w (w7.drewN nq)) := K7.out.drewN nq
              go_wp2_with fail
              go_ret
              exact ⟨by rw [HN.out]; rfl, KE.out⟩
            have d0 : decide (ga < gn) = false := decide_eq_false a0
            have di0 : decide ((ga : Int) < (gn : Int)) = false := decide_eq_false (by omega)
            have d1 : decide (gn + 16 ≤ ga) = false := decide_eq_false a1
            have di1 : decide ((gn : Int) + 16 ≤ (ga : Int)) = false := decide_eq_false (by omega)
            have d2 : decide (1099511627776 ≤ ga) = false := decide_eq_false a2
            have di2 : decide ((1099511627776 : Int) ≤ (ga : Int)) = false := decide_eq_false (by omega)
            have d3 : decide (va < 1) = false := decide_eq_false a3
            have d4 : decide (255 < va) = false := decide_eq_false a4
            have RB : Hid (RkB gn (ga, va)) := ⟨by dsimp only; omega, by dsimp only; omega, by dsimp only; omega, by dsimp only; omega, by dsimp only; omega⟩
            clear a0 a1 a2 a3 a4
            cases i with
            | zero =>
              have HS : Hid (∀ j r, j < 0 + 1 → rk[j]? = some r → RkB gn r ∧ ∀ x, 0 < j → rk[j - 1]? = some x → x.1 < r.1) := fun j r hj hr => by
                obtain rfl : j = 0 := by omega
                rw [he] at hr
                injection hr with hr
                subst hr
                exact ⟨RB.out, fun x hx => by omega⟩
              rw [Nat.zero_mul, Nat.add_zero] at s1 s2
              clear kp
              go_wp2_with fail
              go_quiet (fail)
              have KE : Hid (Keep w5 (w7.drewN nq)) := K75.out.drewN nq
              go_wp2_with fail
              go_roundw
              case rel => exact ⟨0 + 1, by omega, by go_num, HS.out, KE.out⟩
              case measure => simp [intOf]; omega
            | succ i =>
              obtain ⟨⟨gp, vp⟩, hp'⟩ := get_some lr (show i < nr by omega)
              obtain ⟨p2, o2, e2, _, u1, _⟩ := (HI.out.rk.keep (Nat.le_refl _) K7.out).at_ hp'
              dsimp only at u1 e2
              injection e2 with e2
              injection e2 with z1 z2
              subst z1; subst z2
              have g1 : decide ((0 : Int) < ((i + 1 : Nat) : Int)) = true := decide_eq_true (by omega)
              have g2 : IntKind.i64.wrap (((i + 1 : Nat) : Int) - 1) = (i : Int) := by rw [IntWalk.i64_in _ (by omega)]; omega
              have g3 : (0 : Int) ≤ (i : Int) := Int.natCast_nonneg _
              have g4 : (i : Int) < (nr : Int) := by omega
              by_cases le : ga ≤ gp
              · have HN : Hid (q = false) := NEG.out fun _ c => by
                  have := c (gp, vp) (by omega) (by rw [Nat.add_sub_cancel]; exact hp')
                  dsimp only at this; omega
                have g5 : decide (ga ≤ gp) = true := decide_eq_true le
                have g6 : decide ((ga : Int) ≤ (gp : Int)) = true := decide_eq_true (by omega)
                clear kp le
                go_wp2_with fail
                go_quiet (fail)
                have KE : Hid (Keep w (w7.drewN nq)) := K7.out.drewN nq
                go_wp2_with fail
                go_ret
                exact ⟨by rw [HN.out]; rfl, KE.out⟩
              · have g5 : decide (ga ≤ gp) = false := decide_eq_false le
                have g6 : decide ((ga : Int) ≤ (gp : Int)) = false := decide_eq_false (by omega)
                have HS : Hid (∀ j r, j < i + 1 + 1 → rk[j]? = some r → RkB gn r ∧ ∀ x, 0 < j → rk[j - 1]? = some x → x.1 < r.1) := fun j r hj hr => by
                  rcases Nat.lt_or_ge j (i + 1) with h1 | h1
                  · exact HZ.out j r h1 hr
                  · obtain rfl : j = i + 1 := by omega
                    rw [he] at hr
                    injection hr with hr
                    subst hr
                    refine ⟨RB.out, fun x _ hx => ?_⟩
                    rw [Nat.add_sub_cancel, hp'] at hx
                    injection hx with hx
                    subst hx
                    dsimp only; omega
                clear kp le
                go_wp2_with fail
                go_quiet (fail)
                have KE : Hid (Keep w5 (w7.drewN nq)) := K75.out.drewN nq
                go_wp2_with fail
                go_roundw
                case rel => exact ⟨i + 1 + 1, by omega, by go_num, HS.out, KE.out⟩
                case measure => simp [intOf]; omega
          · obtain rfl : i = nr := by omega
            by_cases s0 : (sq : Int) ≤ 0
            · have HN : Hid (q = false) := QN.out fun e => by have := (e.feed rfl).2; dsimp only at this; omega
              have KE : Hid (Keep w wr) := KQ.out.trans kp
              clear kp
              go_wp2_with fail
              go_ret
              exact ⟨by show Ending.returned (Value.bool (decide (0 < sq))) = _; rw [HN.out, decide_eq_false (show ¬ 0 < sq by omega)], KE.out⟩
            · have HY : Hid (q = true) := QM.out (fun e => absurd e (by decide)) (fun _ => ⟨(ranks_iff gn rk).2 fun j r hr => HZ.out j r (by
                rcases Nat.lt_or_ge j rk.length with h1 | h1
                · omega
                · rw [List.getElem?_eq_none h1] at hr; cases hr) hr, by omega⟩) (fun e => absurd e (by decide))
              have KE : Hid (Keep w wr) := KQ.out.trans kp
              clear kp
              go_wp2_with fail
              go_ret
              exact ⟨by show Ending.returned (Value.bool (decide (0 < sq))) = _; rw [HY.out, decide_eq_true (show 0 < sq by omega)], KE.out⟩
      · by_cases c0 : (fo : Int) ≤ 0
        · have HN : Hid (q = false) := QN.out fun e => by have := e.cred rfl; dsimp only at this; omega
          go_wp2_with fail
          go_ret
          exact ⟨by show Ending.returned (Value.bool (decide (0 < fo))) = _; rw [HN.out, decide_eq_false (show ¬ 0 < fo by omega)], KQ.out⟩
        have HY : Hid (q = true) := QM.out (fun e => absurd e (by decide)) (fun e => absurd e (by decide)) (fun _ => by omega)
        go_wp2_with fail
        go_ret
        exact ⟨by show Ending.returned (Value.bool (decide (0 < fo))) = _; rw [HY.out, decide_eq_true (show 0 < fo by omega)], KQ.out⟩
      · have HY : Hid (q = true) := QM.out (fun e => absurd e (by decide)) (fun e => absurd e (by decide)) (fun e => absurd e (by decide))
        go_wp2_with fail
        go_ret
        exact ⟨by rw [HY.out]; rfl, KQ.out⟩
      · have HY : Hid (q = true) := QM.out (fun e => absurd e (by decide)) (fun e => absurd e (by decide)) (fun e => absurd e (by decide))
        go_wp2_with fail
        go_ret
        exact ⟨by rw [HY.out]; rfl, KQ.out⟩
end Go.Proofs.YtgkihfemlbhioaaDoor
