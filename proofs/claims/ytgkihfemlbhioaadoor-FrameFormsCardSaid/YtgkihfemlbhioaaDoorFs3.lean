/- The document's own frames: Bare. -/
import Derived.Test.YtgkihfemlbhioaaDoorFs2
namespace Go.Proofs.YtgkihfemlbhioaaDoor
open Go.RowKit Fr
set_option linter.unusedVariables false
set_option linter.unusedSimpArgs false
theorem resBare : Tryd.f32.results = #[.cell 2 32] := by kernel_rfl
set_option maxRecDepth 100000 in
set_option maxHeartbeats 4000000 in
theorem bare_1 (m : FrM) (f : FrV) (w : World) (hk : f.kind = 1) :
    Calls Tryd.prog 32 #[.agg (frCells m f)] w fun e w' => e = .returned (.agg (frCells (bareM m f.kind) (bareF f))) ∧ Keep w w' := by
  obtain ⟨k, s, d, ep, lf, fl, gn, sq, fo, co, pay, rk, te, up, hp⟩ := f
  obtain ⟨⟨Ac, nc, cc⟩, ⟨Ap, np, cp⟩, ⟨Ar, nr, cr⟩, ⟨Au, nu, cu⟩, ⟨Ah, nh, ch⟩⟩ := m
  dsimp only at hk
  subst hk
  simp only [frCells, bareF, bareM]
  go_enter Tryd.func32, Tryd.ntmps32
  go_wp2_with fail
  refine bodyPost_ret (results_cell_row (p := 2) (ty := 32) resBare _ _ (w.heap.size + 1) 32 _ (0, 0) _ rfl (mid_block w _ _ _ _ _ _) Tryd.underlying32 rfl infoFr) rfl ?_
  exact ⟨rfl, (((Keep.refl w).alloc _ _).alloc _ _).alloc _ _⟩
set_option maxRecDepth 100000 in
set_option maxHeartbeats 4000000 in
theorem bare_2 (m : FrM) (f : FrV) (w : World) (hk : f.kind = 2) :
    Calls Tryd.prog 32 #[.agg (frCells m f)] w fun e w' => e = .returned (.agg (frCells (bareM m f.kind) (bareF f))) ∧ Keep w w' := by
  obtain ⟨k, s, d, ep, lf, fl, gn, sq, fo, co, pay, rk, te, up, hp⟩ := f
  obtain ⟨⟨Ac, nc, cc⟩, ⟨Ap, np, cp⟩, ⟨Ar, nr, cr⟩, ⟨Au, nu, cu⟩, ⟨Ah, nh, ch⟩⟩ := m
  dsimp only at hk
  subst hk
  simp only [frCells, bareF, bareM]
  go_enter Tryd.func32, Tryd.ntmps32
  go_wp2_with fail
  refine bodyPost_ret (results_cell_row (p := 2) (ty := 32) resBare _ _ (w.heap.size + 1) 32 _ (0, 0) _ rfl (mid_block w _ _ _ _ _ _) Tryd.underlying32 rfl infoFr) rfl ?_
  exact ⟨rfl, (((Keep.refl w).alloc _ _).alloc _ _).alloc _ _⟩
set_option maxRecDepth 100000 in
set_option maxHeartbeats 4000000 in
theorem bare_3 (m : FrM) (f : FrV) (w : World) (hk : f.kind = 3) :
    Calls Tryd.prog 32 #[.agg (frCells m f)] w fun e w' => e = .returned (.agg (frCells (bareM m f.kind) (bareF f))) ∧ Keep w w' := by
  obtain ⟨k, s, d, ep, lf, fl, gn, sq, fo, co, pay, rk, te, up, hp⟩ := f
  obtain ⟨⟨Ac, nc, cc⟩, ⟨Ap, np, cp⟩, ⟨Ar, nr, cr⟩, ⟨Au, nu, cu⟩, ⟨Ah, nh, ch⟩⟩ := m
  dsimp only at hk
  subst hk
  simp only [frCells, bareF, bareM]
  go_enter Tryd.func32, Tryd.ntmps32
  go_wp2_with fail
  refine bodyPost_ret (results_cell_row (p := 2) (ty := 32) resBare _ _ (w.heap.size + 1) 32 _ (0, 0) _ rfl (mid_block w _ _ _ _ _ _) Tryd.underlying32 rfl infoFr) rfl ?_
  exact ⟨rfl, (((Keep.refl w).alloc _ _).alloc _ _).alloc _ _⟩
set_option maxRecDepth 100000 in
set_option maxHeartbeats 4000000 in
theorem bare_4 (m : FrM) (f : FrV) (w : World) (hk : f.kind = 4) :
    Calls Tryd.prog 32 #[.agg (frCells m f)] w fun e w' => e = .returned (.agg (frCells (bareM m f.kind) (bareF f))) ∧ Keep w w' := by
  obtain ⟨k, s, d, ep, lf, fl, gn, sq, fo, co, pay, rk, te, up, hp⟩ := f
  obtain ⟨⟨Ac, nc, cc⟩, ⟨Ap, np, cp⟩, ⟨Ar, nr, cr⟩, ⟨Au, nu, cu⟩, ⟨Ah, nh, ch⟩⟩ := m
  dsimp only at hk
  subst hk
  simp only [frCells, bareF, bareM]
  go_enter Tryd.func32, Tryd.ntmps32
  go_wp2_with fail
  refine bodyPost_ret (results_cell_row (p := 2) (ty := 32) resBare _ _ (w.heap.size + 1) 32 _ (0, 0) _ rfl (mid_block w _ _ _ _ _ _) Tryd.underlying32 rfl infoFr) rfl ?_
  exact ⟨rfl, (((Keep.refl w).alloc _ _).alloc _ _).alloc _ _⟩
set_option maxRecDepth 100000 in
set_option maxHeartbeats 4000000 in
theorem bare_5 (m : FrM) (f : FrV) (w : World) (hk : f.kind = 5) :
    Calls Tryd.prog 32 #[.agg (frCells m f)] w fun e w' => e = .returned (.agg (frCells (bareM m f.kind) (bareF f))) ∧ Keep w w' := by
  obtain ⟨k, s, d, ep, lf, fl, gn, sq, fo, co, pay, rk, te, up, hp⟩ := f
  obtain ⟨⟨Ac, nc, cc⟩, ⟨Ap, np, cp⟩, ⟨Ar, nr, cr⟩, ⟨Au, nu, cu⟩, ⟨Ah, nh, ch⟩⟩ := m
  dsimp only at hk
  subst hk
  simp only [frCells, bareF, bareM]
  go_enter Tryd.func32, Tryd.ntmps32
  go_wp2_with fail
  refine bodyPost_ret (results_cell_row (p := 2) (ty := 32) resBare _ _ (w.heap.size + 1) 32 _ (0, 0) _ rfl (mid_block w _ _ _ _ _ _) Tryd.underlying32 rfl infoFr) rfl ?_
  exact ⟨rfl, (((Keep.refl w).alloc _ _).alloc _ _).alloc _ _⟩
set_option maxRecDepth 100000 in
set_option maxHeartbeats 4000000 in
theorem bare_6 (m : FrM) (f : FrV) (w : World) (hk : f.kind = 6) :
    Calls Tryd.prog 32 #[.agg (frCells m f)] w fun e w' => e = .returned (.agg (frCells (bareM m f.kind) (bareF f))) ∧ Keep w w' := by
  obtain ⟨k, s, d, ep, lf, fl, gn, sq, fo, co, pay, rk, te, up, hp⟩ := f
  obtain ⟨⟨Ac, nc, cc⟩, ⟨Ap, np, cp⟩, ⟨Ar, nr, cr⟩, ⟨Au, nu, cu⟩, ⟨Ah, nh, ch⟩⟩ := m
  dsimp only at hk
  subst hk
  simp only [frCells, bareF, bareM]
  go_enter Tryd.func32, Tryd.ntmps32
  go_wp2_with fail
  refine bodyPost_ret (results_cell_row (p := 2) (ty := 32) resBare _ _ (w.heap.size + 1) 32 _ (0, 0) _ rfl (mid_block w _ _ _ _ _ _) Tryd.underlying32 rfl infoFr) rfl ?_
  exact ⟨rfl, (((Keep.refl w).alloc _ _).alloc _ _).alloc _ _⟩
set_option maxRecDepth 100000 in
set_option maxHeartbeats 4000000 in
theorem bare_x (m : FrM) (f : FrV) (w : World) (hk : ¬ (1 ≤ f.kind ∧ f.kind ≤ 6)) :
    Calls Tryd.prog 32 #[.agg (frCells m f)] w fun e w' => e = .returned (.agg (frCells (bareM m f.kind) (bareF f))) ∧ Keep w w' := by
  obtain ⟨k, s, d, ep, lf, fl, gn, sq, fo, co, pay, rk, te, up, hp⟩ := f
  obtain ⟨⟨Ac, nc, cc⟩, ⟨Ap, np, cp⟩, ⟨Ar, nr, cr⟩, ⟨Au, nu, cu⟩, ⟨Ah, nh, ch⟩⟩ := m
  dsimp only at hk
  have n1 : ¬ k = 1 := by omega
  have n2 : ¬ k = 2 := by omega
  have n3 : ¬ k = 3 := by omega
  have n5 : ¬ k = 5 := by omega
  have n6 : ¬ k = 6 := by omega
  have n14 : ¬ (1 ≤ k ∧ k ≤ 4) := by omega
  simp only [frCells, bareF, bareM, n1, n2, n3, n5, n6, n14, or_self, if_false]
  have q1 : (k == 1) = false := beq_eq_false_iff_ne.2 n1
  have q2 : (k == 2) = false := beq_eq_false_iff_ne.2 n2
  have q3 : (k == 3) = false := beq_eq_false_iff_ne.2 n3
  have q5 : (k == 5) = false := beq_eq_false_iff_ne.2 n5
  have q6 : (k == 6) = false := beq_eq_false_iff_ne.2 n6
  by_cases h1 : 1 ≤ k
  · have h4 : ¬ k ≤ 4 := by omega
    have h5 : 4 < k := by omega
    go_enter Tryd.func32, Tryd.ntmps32
    go_wp2_with fail
    refine bodyPost_ret (results_cell_row (p := 2) (ty := 32) resBare _ _ (w.heap.size + 1) 32 _ (0, 0) _ rfl (mid_block w _ _ _ _ _ _) Tryd.underlying32 rfl infoFr) rfl ?_
    exact ⟨rfl, (((Keep.refl w).alloc _ _).alloc _ _).alloc _ _⟩
  · go_enter Tryd.func32, Tryd.ntmps32
    go_wp2_with fail
    refine bodyPost_ret (results_cell_row (p := 2) (ty := 32) resBare _ _ (w.heap.size + 1) 32 _ (0, 0) _ rfl (mid_block w _ _ _ _ _ _) Tryd.underlying32 rfl infoFr) rfl ?_
    exact ⟨rfl, (((Keep.refl w).alloc _ _).alloc _ _).alloc _ _⟩
theorem bare_any (m : FrM) (f : FrV) (w : World) :
    Calls Tryd.prog 32 #[.agg (frCells m f)] w fun e w' => e = .returned (.agg (frCells (bareM m f.kind) (bareF f))) ∧ Keep w w' := by
  by_cases h : 1 ≤ f.kind ∧ f.kind ≤ 6
  · rcases (show f.kind = 1 ∨ f.kind = 2 ∨ f.kind = 3 ∨ f.kind = 4 ∨ f.kind = 5 ∨ f.kind = 6 by omega) with e | e | e | e | e | e
    · exact bare_1 m f w e
    · exact bare_2 m f w e
    · exact bare_3 m f w e
    · exact bare_4 m f w e
    · exact bare_5 m f w e
    · exact bare_6 m f w e
  · exact bare_x m f w h
end Go.Proofs.YtgkihfemlbhioaaDoor
