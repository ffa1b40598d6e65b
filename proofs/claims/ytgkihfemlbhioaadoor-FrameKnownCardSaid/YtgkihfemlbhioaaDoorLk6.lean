/- The walk of FrameKnown: from the Feedback on. -/
import Derived.Test.YtgkihfemlbhioaaDoorLk4
namespace Go.Proofs.YtgkihfemlbhioaaDoor
open Go.RowKit Fr Crc
set_option linter.unusedVariables false
set_option linter.unusedSimpArgs false
noncomputable def midCode : Code := headOf (tailOf 6 (Tryd.f8.body.getD .skip))
noncomputable def midRest : Code := restOf (tailOf 6 (Tryd.f8.body.getD .skip))
set_option maxRecDepth 100000 in
set_option maxHeartbeats 16000000 in
theorem known_mid (w6 w : World) (hT : TabW w) (k6 : Keep w w6)
    (s0 s1 s2 s3 s4 s5 s6 s7 s8 s9 s10 s11 s12 s13 s14 s15 s16 s17 s18 s19 s20 s21 s22 s23 s24 s25 s26 s27 s28 s29 s30 s31 s32 s33 s34 s35 s36 s37 s38 s39 s40 s41 s42 s43 s44 s45 s46 s47 s48 s49 s50 s51 s52 s53 s54 s55 s56 s57 s58 s59 s60 s61 s62 s63 s64 s65 s66 s67 s68 s69 s70 s71 s72 s73 s74 s75 s76 s77 s78 s79 s80 s81 s82 s83 s84 s85 s86 s87 s88 s89 s90 s91 s92 s93 s94 s95 s96 s97 s98 s99 s100 s101 s102 s103 s104 s105 s106 s107 s108 s109 s110 s111 s112 s113 : Value) (K : Act → World → Prop) (hK : ∀ a w', Code.wp Tryd.prog midRest (bodyPost Tryd.prog Tryd.f8 fun e w' => e = .returned (.bool true) ∧ Keep w w') a w' → K a w') :
    Code.wp Tryd.prog midCode (Exit.then K (bodyPost Tryd.prog Tryd.f8 fun e w' => e = .returned (.bool true) ∧ Keep w w')) { tmps := #[s0, s1, s2, s3, s4, s5, s6, s7, s8, s9, s10, s11, s12, s13, s14, s15, s16, s17, s18, s19, s20, s21, s22, s23, s24, s25, s26, s27, s28, s29, s30, s31, s32, s33, s34, s35, s36, s37, s38, s39, s40, s41, s42, s43, s44, s45, s46, s47, s48, s49, s50, s51, s52, s53, s54, s55, s56, s57, s58, s59, s60, s61, s62, s63, s64, s65, s66, s67, s68, s69, s70, s71, s72, s73, s74, s75, s76, s77, s78, s79, s80, s81, s82, s83, s84, s85, s86, s87, s88, s89, s90, s91, s92, s93, s94, s95, s96, s97, s98, s99, s100, s101, s102, s103, s104, s105, s106, s107, s108, s109, s110, s111, s112, s113], defers := [] } w6 := by
  have HT := Lib.hid hT
  have K6 := Lib.hid k6
  clear hT k6
  conv => arg 2; whnf
  go_wp2_with fail
  conv => arg 2; whnf
  go_upto_region 7 with fail
  obtain ⟨w7, hw7⟩ : ∃ wx, (w6.alloc (.cells #[.int .u64 1099511627775, .int .i64 255] 53)).alloc (.cells #[.int .i64 2, .int .i64 0, .int .i64 1, .int .u64 0, .int .u64 1, .int .i64 0, .int .u64 1099511627774, .int .u64 1, .int .u64 0, .slice none 0 0, .slice none 0 0, .slice (some ⟨w6.heap.size, 0, none⟩) 1 1, .int .u64 0, .slice none 0 0, .slice none 0 0] 32) = wx := ⟨_, rfl⟩
  obtain ⟨k7, hb7, hf7⟩ := told_at w6 hw7
  rw [hw7]
  clear hw7
  have HMT0 := Lib.hid (fun wx (kx : Keep w7 wx) => gmay_any (feedM w6.heap.size 1) toldF wx (hf7.later kx))
  rw [decide_eq_true may_told] at HMT0
  obtain ⟨g6, hg6⟩ : ∃ g, w6.heap.size = g := ⟨_, rfl⟩
  rw [hg6] at hb7 HMT0 ⊢
  simp only [frCells, feedM, toldF] at HMT0
  have HB6 : Hid (∀ wr, Keep w7 wr → (wr.cell? ⟨(g6 + 1), 0, none⟩ = some (.int .i64 2) ∧ wr.cell? ⟨(g6 + 1), 1, none⟩ = some (.int .i64 0) ∧ wr.cell? ⟨(g6 + 1), 2, none⟩ = some (.int .i64 1) ∧ wr.cell? ⟨(g6 + 1), 3, none⟩ = some (.int .u64 0) ∧ wr.cell? ⟨(g6 + 1), 4, none⟩ = some (.int .u64 1)) ∧ (wr.cell? ⟨(g6 + 1), 5, none⟩ = some (.int .i64 0) ∧ wr.cell? ⟨(g6 + 1), 6, none⟩ = some (.int .u64 1099511627774) ∧ wr.cell? ⟨(g6 + 1), 7, none⟩ = some (.int .u64 1) ∧ wr.cell? ⟨(g6 + 1), 8, none⟩ = some (.int .u64 0)) ∧ (wr.cell? ⟨(g6 + 1), 9, none⟩ = some (.slice none 0 0) ∧ wr.cell? ⟨(g6 + 1), 10, none⟩ = some (.slice none 0 0) ∧ wr.cell? ⟨(g6 + 1), 11, none⟩ = some (.slice (some ⟨g6, 0, none⟩) 1 1)) ∧ wr.cell? ⟨(g6 + 1), 12, none⟩ = some (.int .u64 0) ∧ wr.cell? ⟨(g6 + 1), 13, none⟩ = some (.slice none 0 0) ∧ wr.cell? ⟨(g6 + 1), 14, none⟩ = some (.slice none 0 0)) := fun wr kr => (hb7.keep kr).cells
  clear hb7 hf7 hg6
  have KW7 : Hid (Keep w w7) := K6.out.trans k7
  clear k7
  go_cut [7] (fun v wx => ∃ g : Nat, v = .pointer (some ⟨g, 0, none⟩) ∧ Keep w7 wx ∧ ∀ j, j < 12 → ∃ (m : FrM) (f : FrV), ¬ MayF f ∧ FrIn wx wx.heap.size m f ∧ ∀ wr, Keep wx wr → At15 wr g (j * 15) m f)
  case first =>
    go_upto_region 8 with (first | (refine Go.wpList_buildTo rfl 54 _ rfl (some 61) rfl (badCells w7.heap.size) (by kernel_rfl) ?_) | (refine Go.Great.wpList_allocTo rfl (some 7) rfl (.pointer (some ⟨(w7.alloc (.cells #[.bool true] 4)).heap.size, 0, none⟩)) (.cells zeroCells 54) (by kernel_rfl) ?_) | (refine store_new (t := 54) rfl _ _ rfl (badCells w7.heap.size) rfl rfl (by kernel_rfl) (by kernel_rfl) (by kernel_rfl) ?_))
    simp only [Act.put, List.setIfInBounds_toArray, List.set_cons_succ, List.set_cons_zero]
    go_meet
    case rel =>
      obtain ⟨k8, hbad⟩ := bad_at w7 _ rfl
      exact ⟨_, rfl, k8, fun j hj => by
        obtain ⟨m, f, h1, h2, h3⟩ := hbad j hj
        exact ⟨m, f, h1, h2, fun wr kr => by rw [show (w7.alloc (.cells #[.bool true] 4)).heap.size = w7.heap.size + 1 by simp]; exact h3 wr kr⟩⟩
  case rest =>
    obtain ⟨g7, rfl, k8, hbad⟩ := hcut
    obtain ⟨w8, rfl⟩ : ∃ w8, w8 = wc := ⟨_, rfl⟩
    have KW8 : Hid (Keep w w8) := KW7.out.trans k8
    have HBAD := Lib.hid hbad
    have K8 := Lib.hid k8
    clear k8 hbad
    go_upto_block 0 with fail
    go_cut [8] (fun v wx => Keep w8 wx)
    case first =>
      go_wp2_with fail
      go_loopw [8] (fun iv wr => ∃ j : Nat, j ≤ 12 ∧ iv = .int .i64 j ∧ Keep w8 wr) (fun iv _ => 12 - (intOf iv).toNat)
      case atStart => exact ⟨0, by omega, rfl, Keep.refl _⟩
      case round =>
        obtain ⟨j, hj, rfl, hkeep⟩ := hrel
        by_cases hlt : j < 12
        · obtain ⟨m, f, hm, hf, hc⟩ := HBAD.out j hlt
          have HMAY := Lib.hid (gmay_any m f wr (hf.later hkeep))
          rw [decide_eq_false hm] at HMAY
          obtain ⟨⟨c0, c1, c2, c3, c4⟩, ⟨c5, c6, c7, c8⟩, ⟨c9, c10, c11⟩, c12, c13, c14⟩ := hc wr hkeep
          clear hm hf hc
          obtain ⟨k, s, d, ep, lf, fl, gn, sq, fo, co, pay, rk, te, up, hp⟩ := f
          obtain ⟨⟨Ac, nc, cc⟩, ⟨Ap, np, cp⟩, ⟨Ar, nr, cr⟩, ⟨Au, nu, cu⟩, ⟨Ah, nh, ch⟩⟩ := m
          simp only [frCells] at HMAY
          dsimp only at c0 c1 c2 c3 c4 c5 c6 c7 c8 c9 c10 c11 c12 c13 c14
          have y1 : (0 : Int) ≤ (j : Int) := Int.natCast_nonneg _
          have y2 : (j : Int) < 12 := by omega
          have y3 : ((j : Int)).toNat = j := Int.toNat_natCast j
          have KR := Lib.hid hkeep
          clear hkeep
          go_wp2_with fail
          refine HMAY.out.mono ?_
          rintro e wy ⟨rfl, ky⟩
          have KY : Hid (Keep w8 wy) := KR.out.trans ky
          clear ky HMAY KR c0 c1 c2 c3 c4 c5 c6 c7 c8 c9 c10 c11 c12 c13 c14
          go_wp2_with fail
          go_roundw
          case rel => exact ⟨j + 1, by omega, by go_num, KY.out⟩
          case measure => simp [intOf]; omega
        · obtain rfl : j = 12 := by omega
          clear HBAD
          go_wp2_with fail
          go_meet
          case rel => exact hkeep
    case rest =>
      refine (show ∀ (a : Act) (w' : World), Code.wp Tryd.prog tailCode (bodyPost Tryd.prog Tryd.f8 fun e w' => e = .returned (.bool true) ∧ Keep w w') a w' → _ from by assumption) _ _ ?_
      exact known_tail w7 wc g6 w (HT.out.keep (KW8.out.trans hcut)) KW7.out (K8.out.trans hcut) HB6 HMT0 _ _ _ _ _ _ _ _ _ _ _ _ _ _ _ _ _ _ _ _ _ _ _ _ _ _ _ _ _ _ _ _ _ _ _ _ _ _ _ _ _ _ _ _ _ _ _ _ _ _ _ _ _ _ _ _ _ _ _ _ _ _ _ _ _ _ _ _ _ _ _ _ _ _ _ _ _ _ _ _ _ _ _ _ _ _ _ _ _ _ _ _ _ _ _ _ _ _ _ _ _ _ _ _ _ _ _ _ _ _ _ _ _
end Go.Proofs.YtgkihfemlbhioaaDoor
