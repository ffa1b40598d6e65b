/- The contract of the tables' making. -/
import Derived.Test.YtnknpohnlobgcaaRows
import Derived.Test.YtnknpohnlobgcaaTab
import Derived.Test.YtnknpohnlobgcaaBase
import Derived.WalkKit
import Derived.WalkMore
import Derived.Lib.Hide
import Derived.ScopeJumps
namespace Go.Proofs.Ytnknpohnlobgcaa
open Go.RowKit

theorem zero_tab (w : World) : (zeroValue 52).run Try.prog w = .ok (.agg zeros) w := by kernel_rfl

theorem info_tab : (Try.prog.info? 52).map (·.size) = some 511 := by kernel_rfl
theorem info_cells (l : List Nat) (h : l.length = 511) : (Try.prog.info? 52).map (·.size) = some (cellsU8 l).size := by rw [info_tab, cellsU8_size, h]

set_option maxRecDepth 100000 in
theorem build_any (w : World) :
    Calls Try.prog 25 #[] w fun e w' => e = .returned (.agg tabC) ∧ Grown w w' := by
  have hz := zero_tab
  go_enter Try.func25, Try.ntmps25
  go_wp2_with fail
  refine wp_scope_jumps 0 (fun a' w' => Grown w w' ∧ ∃ (k : Nat) (u4 u5 u6 u7 u8 u9 u10 u11 u12 u13 u14 u15 u16 u17 u18 u19 u20 : Value), a' = { tmps := #[.pointer (some ⟨w.heap.size, 0, none⟩), .pointer (some ⟨w.heap.size + 1, 0, none⟩), .int .i64 k, .int .u8 (pw k : Nat), u4, u5, u6, u7, u8, u9, u10, u11, u12, u13, u14, u15, u16, u17, u18, u19, u20, undef], defers := [] } ∧ k < 255 ∧ w'.heap[w.heap.size]? = some (.cells zeros 52) ∧ w'.heap[w.heap.size + 1]? = some (.cells (cellsU8 (tabN k)) 52)) (fun a' _ => 255 - (intOf (a'.tmps.getD 2 undef)).toNat) rfl ?_ ?_
  · go_wp2_with fail
    go_step3
    go_wp2_with fail
    refine (timesX_any 1 (by decide) _).mono ?_
    rintro e w' ⟨rfl, rfl⟩
    go_wp2_with fail
    refine (add_any 1 (xt 1) (by decide) (by decide) _).mono ?_
    rintro e w' ⟨rfl, rfl⟩
    go_wp2_with fail
    go_step3
    refine ⟨rfl, ((Grown.refl _).alloc _ _).alloc _ _, 1, _, _, _, _, _, _, _, _, _, _, _, _, _, _, _, _, _, rfl, by decide, ?_, ?_⟩
    · exact heap_alloc2_old _ _ _
    · rw [heap_alloc2_new]; exact congrArg (fun c => some (Obj.cells c 52)) ((cellsU8_set ((tabN 0).set 0 (pw 0)) 256 0) ▸ rfl)
  · rintro a' w' ⟨hg, k, u4, u5, u6, u7, u8, u9, u10, u11, u12, u13, u14, u15, u16, u17, u18, u19, u20, rfl, hk, hh, hh1⟩
    have hp := pw_lt k
    have hp1 := pw_pos' k
    have hl := tabN_length k
    have hl2 : ((tabN k).set k (pw k)).length = 511 := by simp [hl]
    obtain ⟨v1, hc1⟩ : ∃ v, w'.cell? ⟨w.heap.size + 1, k, none⟩ = some v := ⟨_, cell_table hh1 (by omega)⟩
    obtain ⟨v2, hc2⟩ : ∃ v, w'.cell? ⟨w.heap.size + 1, 255 + pw k, none⟩ = some v := ⟨_, cell_table hh1 (by omega)⟩
    have hf1 := frozen_of_row w' (w.heap.size + 1) k _ _ hh1
    have hf2 := frozen_of_row w' (w.heap.size + 1) (255 + pw k) _ _ hh1
    have hs := heap_set2 (i := k) (j := 255 + pw k) (x := pw k) (y := k) hh1
    have HS := Lib.hid hs
    have HH := Lib.hid hh
    have HL := Lib.hid hl
    clear hs hh hh1 hl hl2
    by_cases hk2 : k < 254
    · go_wp2_with fail
      refine (timesX_any _ hp _).mono ?_
      rintro e w' ⟨rfl, rfl⟩
      go_wp2_with fail
      refine (add_any _ _ hp (xt_lt hp) _).mono ?_
      rintro e w' ⟨rfl, rfl⟩
      go_wp2_with fail
      go_step3
      refine ⟨rfl, ⟨(hg.setCell (Nat.le_succ _) _).setCell (Nat.le_succ _) _, k + 1, _, _, _, _, _, _, _, _, _, _, _, _, _, _, _, _, _, rfl, by omega, ?_, HS.out⟩, ?_⟩
      · rw [heap_setCell_other _ _ _ _ (by simp), heap_setCell_other _ _ _ _ (by simp)]; exact HH.out
      · simp [intOf]; omega
    · have hk3 : k = 254 := by omega
      have HT := Lib.hid (show (tabN 255) = ((tabN k).set k (pw k)).set (255 + pw k) k by rw [hk3]; rfl)
      have hk4 : 254 ≤ k := by omega
      clear hk3
      have hl5 : (((tabN k).set k (pw k)).set (255 + pw k) k).length = 511 := by simp [HL.out]
      have HI := Lib.hid (info_cells _ hl5)
      have HL5 := Lib.hid hl5
      have hg2 := (hg.setCell (a := ⟨w.heap.size + 1, k, none⟩) (Nat.le_succ _) (.int .u8 (pw k : Nat))).setCell (a := ⟨w.heap.size + 1, 255 + pw k, none⟩) (Nat.le_succ _) (.int .u8 (k : Nat))
      have HH2 : Hid (((w'.setCell ⟨w.heap.size + 1, k, none⟩ (.int .u8 (pw k : Nat))).setCell ⟨w.heap.size + 1, 255 + pw k, none⟩ (.int .u8 (k : Nat))).heap[w.heap.size]? = some (.cells zeros 52)) := by
        show _ = _
        rw [heap_setCell_other _ _ _ _ (by simp), heap_setCell_other _ _ _ _ (by simp)]; exact HH.out
      clear hl5
      go_wp2_with fail
      refine (timesX_any _ hp _).mono ?_
      rintro e w' ⟨rfl, rfl⟩
      go_wp2_with fail
      refine (add_any _ _ hp (xt_lt hp) _).mono ?_
      rintro e w' ⟨rfl, rfl⟩
      go_wp2_with first | (refine wpList_load_row rfl 52 _ rfl (w.heap.size + 1) rfl 52 _ (0, 0) _ HS.out Try.underlying52 rfl HI.out ?_) | (refine wpList_store_row rfl 52 _ _ rfl w.heap.size _ rfl rfl 52 zeros HH2.out HI.out (by rw [cellsU8_size, HL5.out]; rfl) (cellsU8_one _) ?_)
      simp only [Exit.jump]
      refine bodyPost_ret (v := .agg (cellsU8 (((tabN k).set k (pw k)).set (255 + pw k) k))) ?_ rfl ⟨by rw [tabC, HT.out], Grown_setRow hg2 (Nat.le_refl _) HH2.out⟩
      exact results_cell_row (p := 0) (ty := 52) rfl _ _ w.heap.size 52 _ (0, 0) _ rfl (setRow_heap _ _ _ _ _ _ HH2.out) Try.underlying52 rfl HI.out
end Go.Proofs.Ytnknpohnlobgcaa
