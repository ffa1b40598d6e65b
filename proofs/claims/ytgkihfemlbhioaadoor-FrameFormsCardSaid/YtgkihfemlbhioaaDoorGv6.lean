/- The landed frames: own. -/
import Derived.Test.YtgkihfemlbhioaaDoorFbx
import Derived.RegionTactic
import Derived.Test.YtgkihfemlbhioaaDoorRegion
import Derived.Deep.RegionHeld3
namespace Go.Proofs.YtgkihfemlbhioaaDoor
open Go.RowKit Fr
set_option linter.unusedVariables false
set_option linter.unusedSimpArgs false
theorem resOwn : Tryd.f31.results = #[.cell 2 32] := by kernel_rfl
set_option maxRecDepth 100000 in
set_option maxHeartbeats 4000000 in
theorem gown_1 (m : FrM) (f : FrV) (w : World) (hk : f.kind = 1) :
    Calls Tryd.prog 31 #[.agg (frCells m f)] w fun e w' => e = .returned (.agg (frCells (bareM m f.kind) (bareF f))) ∧ Keep w w' := by
  obtain ⟨k, s, d, ep, lf, fl, gn, sq, fo, co, pay, rk, te, up, hp⟩ := f
  obtain ⟨⟨Ac, nc, cc⟩, ⟨Ap, np, cp⟩, ⟨Ar, nr, cr⟩, ⟨Au, nu, cu⟩, ⟨Ah, nh, ch⟩⟩ := m
  dsimp only at hk
  subst hk
  simp only [frCells, bareF, bareM]
  go_enter Tryd.func31, Tryd.ntmps31
  go_wp2_with fail
  go_region
  go_wp2_with fail
  refine bodyPost_ret (results_cell_row (p := 2) (ty := 32) resOwn _ _ (w.heap.size + 1) 32 _ (0, 0) _ rfl (mid_block w _ _ _ _ _ _) Tryd.underlying32 rfl infoFr) rfl ?_
  exact ⟨rfl, ((((Keep.refl w).alloc _ _).alloc _ _).alloc _ _).drew⟩
set_option maxRecDepth 100000 in
set_option maxHeartbeats 4000000 in
theorem gown_2 (m : FrM) (f : FrV) (w : World) (hk : f.kind = 2) :
    Calls Tryd.prog 31 #[.agg (frCells m f)] w fun e w' => e = .returned (.agg (frCells (bareM m f.kind) (bareF f))) ∧ Keep w w' := by
  obtain ⟨k, s, d, ep, lf, fl, gn, sq, fo, co, pay, rk, te, up, hp⟩ := f
  obtain ⟨⟨Ac, nc, cc⟩, ⟨Ap, np, cp⟩, ⟨Ar, nr, cr⟩, ⟨Au, nu, cu⟩, ⟨Ah, nh, ch⟩⟩ := m
  dsimp only at hk
  subst hk
  simp only [frCells, bareF, bareM]
  go_enter Tryd.func31, Tryd.ntmps31
  go_wp2_with fail
  go_region
  go_wp2_with fail
  refine bodyPost_ret (results_cell_row (p := 2) (ty := 32) resOwn _ _ (w.heap.size + 1) 32 _ (0, 0) _ rfl (mid_block w _ _ _ _ _ _) Tryd.underlying32 rfl infoFr) rfl ?_
  exact ⟨rfl, ((((Keep.refl w).alloc _ _).alloc _ _).alloc _ _).drew⟩
set_option maxRecDepth 100000 in
set_option maxHeartbeats 4000000 in
theorem gown_3 (m : FrM) (f : FrV) (w : World) (hk : f.kind = 3) :
    Calls Tryd.prog 31 #[.agg (frCells m f)] w fun e w' => e = .returned (.agg (frCells (bareM m f.kind) (bareF f))) ∧ Keep w w' := by
  obtain ⟨k, s, d, ep, lf, fl, gn, sq, fo, co, pay, rk, te, up, hp⟩ := f
  obtain ⟨⟨Ac, nc, cc⟩, ⟨Ap, np, cp⟩, ⟨Ar, nr, cr⟩, ⟨Au, nu, cu⟩, ⟨Ah, nh, ch⟩⟩ := m
  dsimp only at hk
  subst hk
  simp only [frCells, bareF, bareM]
  go_enter Tryd.func31, Tryd.ntmps31
  go_wp2_with fail
  go_region
  go_wp2_with fail
  refine bodyPost_ret (results_cell_row (p := 2) (ty := 32) resOwn _ _ (w.heap.size + 1) 32 _ (0, 0) _ rfl (mid_block w _ _ _ _ _ _) Tryd.underlying32 rfl infoFr) rfl ?_
  exact ⟨rfl, ((((Keep.refl w).alloc _ _).alloc _ _).alloc _ _).drew⟩
set_option maxRecDepth 100000 in
set_option maxHeartbeats 4000000 in
theorem gown_4 (m : FrM) (f : FrV) (w : World) (hk : f.kind = 4) :
    Calls Tryd.prog 31 #[.agg (frCells m f)] w fun e w' => e = .returned (.agg (frCells (bareM m f.kind) (bareF f))) ∧ Keep w w' := by
  obtain ⟨k, s, d, ep, lf, fl, gn, sq, fo, co, pay, rk, te, up, hp⟩ := f
  obtain ⟨⟨Ac, nc, cc⟩, ⟨Ap, np, cp⟩, ⟨Ar, nr, cr⟩, ⟨Au, nu, cu⟩, ⟨Ah, nh, ch⟩⟩ := m
  dsimp only at hk
  subst hk
  simp only [frCells, bareF, bareM]
  go_enter Tryd.func31, Tryd.ntmps31
  go_wp2_with fail
  refine bodyPost_ret (results_cell_row (p := 2) (ty := 32) resOwn _ _ (w.heap.size + 1) 32 _ (0, 0) _ rfl (mid_block w _ _ _ _ _ _) Tryd.underlying32 rfl infoFr) rfl ?_
  exact ⟨rfl, (((Keep.refl w).alloc _ _).alloc _ _).alloc _ _⟩
set_option maxRecDepth 100000 in
set_option maxHeartbeats 4000000 in
theorem gown_5 (m : FrM) (f : FrV) (w : World) (hk : f.kind = 5) :
    Calls Tryd.prog 31 #[.agg (frCells m f)] w fun e w' => e = .returned (.agg (frCells (bareM m f.kind) (bareF f))) ∧ Keep w w' := by
  obtain ⟨k, s, d, ep, lf, fl, gn, sq, fo, co, pay, rk, te, up, hp⟩ := f
  obtain ⟨⟨Ac, nc, cc⟩, ⟨Ap, np, cp⟩, ⟨Ar, nr, cr⟩, ⟨Au, nu, cu⟩, ⟨Ah, nh, ch⟩⟩ := m
  dsimp only at hk
  subst hk
  simp only [frCells, bareF, bareM]
  go_enter Tryd.func31, Tryd.ntmps31
  go_wp2_with fail
  refine bodyPost_ret (results_cell_row (p := 2) (ty := 32) resOwn _ _ (w.heap.size + 1) 32 _ (0, 0) _ rfl (mid_block w _ _ _ _ _ _) Tryd.underlying32 rfl infoFr) rfl ?_
  exact ⟨rfl, (((Keep.refl w).alloc _ _).alloc _ _).alloc _ _⟩
set_option maxRecDepth 100000 in
set_option maxHeartbeats 4000000 in
theorem gown_6 (m : FrM) (f : FrV) (w : World) (hk : f.kind = 6) :
    Calls Tryd.prog 31 #[.agg (frCells m f)] w fun e w' => e = .returned (.agg (frCells (bareM m f.kind) (bareF f))) ∧ Keep w w' := by
  obtain ⟨k, s, d, ep, lf, fl, gn, sq, fo, co, pay, rk, te, up, hp⟩ := f
  obtain ⟨⟨Ac, nc, cc⟩, ⟨Ap, np, cp⟩, ⟨Ar, nr, cr⟩, ⟨Au, nu, cu⟩, ⟨Ah, nh, ch⟩⟩ := m
  dsimp only at hk
  subst hk
  simp only [frCells, bareF, bareM]
  go_enter Tryd.func31, Tryd.ntmps31
  go_wp2_with fail
  go_region
  go_wp2_with fail
  refine bodyPost_ret (results_cell_row (p := 2) (ty := 32) resOwn _ _ (w.heap.size + 1) 32 _ (0, 0) _ rfl (mid_block w _ _ _ _ _ _) Tryd.underlying32 rfl infoFr) rfl ?_
  exact ⟨rfl, ((((Keep.refl w).alloc _ _).alloc _ _).alloc _ _).drew⟩
set_option maxRecDepth 100000 in
set_option maxHeartbeats 4000000 in
theorem gown_x (m : FrM) (f : FrV) (w : World) (hk : ¬ (1 ≤ f.kind ∧ f.kind ≤ 6)) :
    Calls Tryd.prog 31 #[.agg (frCells m f)] w fun e w' => e = .returned (.agg (frCells (bareM m f.kind) (bareF f))) ∧ Keep w w' := by
  obtain ⟨k, s, d, ep, lf, fl, gn, sq, fo, co, pay, rk, te, up, hp⟩ := f
  obtain ⟨⟨Ac, nc, cc⟩, ⟨Ap, np, cp⟩, ⟨Ar, nr, cr⟩, ⟨Au, nu, cu⟩, ⟨Ah, nh, ch⟩⟩ := m
  dsimp only at hk
  have e1 : ¬ k = 1 := by omega
  have e2 : ¬ k = 2 := by omega
  have e3 : ¬ k = 3 := by omega
  have e4 : ¬ k = 4 := by omega
  have e5 : ¬ k = 5 := by omega
  have e6 : ¬ k = 6 := by omega
  have e7 : ¬ (1 ≤ k ∧ k ≤ 4) := by omega
  simp only [frCells, bareF, bareM, e1, e2, e3, e5, e6, e7, if_false, false_or, or_false]
  have b1 : (k == 1) = false := beq_eq_false_iff_ne.2 e1
  have b2 : (k == 2) = false := beq_eq_false_iff_ne.2 e2
  have b3 : (k == 3) = false := beq_eq_false_iff_ne.2 e3
  have b4 : (k == 4) = false := beq_eq_false_iff_ne.2 e4
  have b5 : (k == 5) = false := beq_eq_false_iff_ne.2 e5
  have b6 : (k == 6) = false := beq_eq_false_iff_ne.2 e6
  clear hk e1 e2 e3 e4 e5 e6 e7
  go_enter Tryd.func31, Tryd.ntmps31
  go_wp2_with fail
  refine bodyPost_ret (results_cell_row (p := 2) (ty := 32) resOwn _ _ (w.heap.size + 1) 32 _ (0, 0) _ rfl (mid_block w _ _ _ _ _ _) Tryd.underlying32 rfl infoFr) rfl ?_
  exact ⟨rfl, (((Keep.refl w).alloc _ _).alloc _ _).alloc _ _⟩
theorem gown_any (m : FrM) (f : FrV) (w : World) : Calls Tryd.prog 31 #[.agg (frCells m f)] w fun e w' => e = .returned (.agg (frCells (bareM m f.kind) (bareF f))) ∧ Keep w w' := by
  by_cases h : 1 ≤ f.kind ∧ f.kind ≤ 6
  · by_cases e1 : f.kind = 1
    · exact gown_1 m f w e1
    by_cases e2 : f.kind = 2
    · exact gown_2 m f w e2
    by_cases e3 : f.kind = 3
    · exact gown_3 m f w e3
    by_cases e4 : f.kind = 4
    · exact gown_4 m f w e4
    by_cases e5 : f.kind = 5
    · exact gown_5 m f w e5
    exact gown_6 m f w (by omega)
  · exact gown_x m f w h
end Go.Proofs.YtgkihfemlbhioaaDoor
