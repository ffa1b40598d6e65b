/- The walk of FrameKnown: what comes behind the loop. -/
import Derived.Test.YtgkihfemlbhioaaDoorLk5
import Derived.Deep.DeepCutAuto
import Derived.Deep.CutBlock
namespace Go.Proofs.YtgkihfemlbhioaaDoor
open Go.RowKit Fr Crc
set_option linter.unusedVariables false
set_option linter.unusedSimpArgs false
set_option maxRecDepth 100000 in
set_option maxHeartbeats 16000000 in
theorem known_tail (w7 wr : World) (g6 : Nat) (w : World) (hT : TabW wr) (kw7 : Keep w w7) (k9 : Keep w7 wr)
    (HB6 : Hid (∀ wr, Keep w7 wr → (wr.cell? ⟨(g6 + 1), 0, none⟩ = some (.int .i64 2) ∧ wr.cell? ⟨(g6 + 1), 1, none⟩ = some (.int .i64 0) ∧ wr.cell? ⟨(g6 + 1), 2, none⟩ = some (.int .i64 1) ∧ wr.cell? ⟨(g6 + 1), 3, none⟩ = some (.int .u64 0) ∧ wr.cell? ⟨(g6 + 1), 4, none⟩ = some (.int .u64 1)) ∧ (wr.cell? ⟨(g6 + 1), 5, none⟩ = some (.int .i64 0) ∧ wr.cell? ⟨(g6 + 1), 6, none⟩ = some (.int .u64 1099511627774) ∧ wr.cell? ⟨(g6 + 1), 7, none⟩ = some (.int .u64 1) ∧ wr.cell? ⟨(g6 + 1), 8, none⟩ = some (.int .u64 0)) ∧ (wr.cell? ⟨(g6 + 1), 9, none⟩ = some (.slice none 0 0) ∧ wr.cell? ⟨(g6 + 1), 10, none⟩ = some (.slice none 0 0) ∧ wr.cell? ⟨(g6 + 1), 11, none⟩ = some (.slice (some ⟨g6, 0, none⟩) 1 1)) ∧ wr.cell? ⟨(g6 + 1), 12, none⟩ = some (.int .u64 0) ∧ wr.cell? ⟨(g6 + 1), 13, none⟩ = some (.slice none 0 0) ∧ wr.cell? ⟨(g6 + 1), 14, none⟩ = some (.slice none 0 0)))
    (HMT0 : Hid (∀ wx, Keep w7 wx → Calls Tryd.prog 14 #[.agg #[.int .i64 2, .int .i64 0, .int .i64 1, .int .u64 0, .int .u64 1, .int .i64 0, .int .u64 1099511627774, .int .u64 1, .int .u64 0, .slice none 0 0, .slice none 0 0, .slice (some ⟨g6, 0, none⟩) 1 1, .int .u64 0, .slice none 0 0, .slice none 0 0]] wx fun e w' => e = .returned (.bool true) ∧ Keep wx w'))
    (s0 s1 s2 s3 s4 s5 s7 s8 s9 s10 s11 s12 s13 s14 s15 s16 s17 s18 s19 s20 s21 s22 s23 s24 s25 s26 s27 s28 s29 s30 s31 s32 s33 s34 s35 s36 s37 s38 s39 s40 s41 s42 s43 s44 s45 s46 s47 s48 s49 s50 s51 s52 s53 s54 s55 s56 s57 s58 s59 s60 s61 s62 s63 s64 s65 s66 s67 s68 s69 s70 s71 s72 s73 s74 s75 s76 s77 s78 s79 s80 s81 s82 s83 s84 s85 s86 s87 s88 s89 s90 s91 s92 s93 s94 s95 s96 s97 s98 s99 s100 s101 s102 s103 s104 s105 s106 s107 s108 s109 s110 s111 s112 s113 : Value) :
    Code.wp Tryd.prog tailCode (bodyPost Tryd.prog Tryd.f8 fun e w' => e = .returned (.bool true) ∧ Keep w w') { tmps := #[s0, s1, s2, s3, s4, s5, .pointer (some ⟨g6 + 1, 0, none⟩), s7, s8, s9, s10, s11, s12, s13, s14, s15, s16, s17, s18, s19, s20, s21, s22, s23, s24, s25, s26, s27, s28, s29, s30, s31, s32, s33, s34, s35, s36, s37, s38, s39, s40, s41, s42, s43, s44, s45, s46, s47, s48, s49, s50, s51, s52, s53, s54, s55, s56, s57, s58, s59, s60, s61, s62, s63, s64, s65, s66, s67, s68, s69, s70, s71, s72, s73, s74, s75, s76, s77, s78, s79, s80, s81, s82, s83, s84, s85, s86, s87, s88, s89, s90, s91, s92, s93, s94, s95, s96, s97, s98, s99, s100, s101, s102, s103, s104, s105, s106, s107, s108, s109, s110, s111, s112, s113], defers := [] } wr := by
  have HT := Lib.hid hT
  have KW7 := Lib.hid kw7
  have K9 := Lib.hid k9
  clear hT kw7 k9
  conv => arg 2; whnf
  obtain ⟨⟨y0, y1, y2, y3, y4⟩, ⟨y5, y6, y7, y8⟩, ⟨y9, y10, y11⟩, y12, y13, y14⟩ := HB6.out _ K9.out
  go_upto_region 15 with fail
  clear y0 y1 y2 y3 y4 y5 y6 y7 y8 y9 y10 y11 y12 y13 y14
  obtain ⟨w10, hwF⟩ : ∃ wx, (wr.alloc (.cells #[.int .i64 2, .int .i64 0, .int .i64 1, .int .u64 0, .int .u64 1, .int .i64 0, .int .u64 1099511627774, .int .u64 1, .int .u64 0, .slice none 0 0, .slice none 0 0, .slice (some ⟨wr.heap.size + 1, 0, none⟩) 1 1, .int .u64 0, .slice none 0 0, .slice none 0 0] 32)).alloc (.cells #[.int .u64 1099511627776, .int .i64 1] 53) = wx := ⟨_, rfl⟩
  obtain ⟨kF, hbF, hfF⟩ := feed_at wr (l := [(1099511627776, 1)]) (n := 1) hwF (fun W g h => ranks1 (a := 1099511627776) (b := 1) h) (by decide) (fun r hr => by simp at hr; subst hr; exact ⟨by simp [U64], by simp [I64]⟩)
  rw [hwF]
  clear hwF
  have HMF := Lib.hid (fun wx (kx : Keep w10 wx) => gmay_any _ _ wx (hfF.later kx))
  rw [decide_eq_false (show ¬ MayF (feedF [(1099511627776, 1)]) from may_far)] at HMF
  obtain ⟨g9, hgF⟩ : ∃ g, wr.heap.size = g := ⟨_, rfl⟩
  rw [hgF] at hbF HMF ⊢
  simp only [frCells, feedM, feedF] at HMF
  have HBF : Hid (∀ wr, Keep w10 wr → (wr.cell? ⟨g9, 0, none⟩ = some (.int .i64 2) ∧ wr.cell? ⟨g9, 1, none⟩ = some (.int .i64 0) ∧ wr.cell? ⟨g9, 2, none⟩ = some (.int .i64 1) ∧ wr.cell? ⟨g9, 3, none⟩ = some (.int .u64 0) ∧ wr.cell? ⟨g9, 4, none⟩ = some (.int .u64 1)) ∧ (wr.cell? ⟨g9, 5, none⟩ = some (.int .i64 0) ∧ wr.cell? ⟨g9, 6, none⟩ = some (.int .u64 1099511627774) ∧ wr.cell? ⟨g9, 7, none⟩ = some (.int .u64 1) ∧ wr.cell? ⟨g9, 8, none⟩ = some (.int .u64 0)) ∧ (wr.cell? ⟨g9, 9, none⟩ = some (.slice none 0 0) ∧ wr.cell? ⟨g9, 10, none⟩ = some (.slice none 0 0) ∧ wr.cell? ⟨g9, 11, none⟩ = some (.slice (some ⟨g9 + 1, 0, none⟩) 1 1)) ∧ wr.cell? ⟨g9, 12, none⟩ = some (.int .u64 0) ∧ wr.cell? ⟨g9, 13, none⟩ = some (.slice none 0 0) ∧ wr.cell? ⟨g9, 14, none⟩ = some (.slice none 0 0)) := fun wr kr => (hbF.keep kr).cells
  have KF : Hid (Keep w7 w10) := K9.out.trans kF
  have JF : Hid (Keep wr w10) := kF
  clear hbF hfF hgF kF
  obtain ⟨⟨y0, y1, y2, y3, y4⟩, ⟨y5, y6, y7, y8⟩, ⟨y9, y10, y11⟩, y12, y13, y14⟩ := HB6.out _ KF.out
  go_upto_region 17 with fail
  clear y0 y1 y2 y3 y4 y5 y6 y7 y8 y9 y10 y11 y12 y13 y14
  obtain ⟨w11, hwT⟩ : ∃ wx, (w10.alloc (.cells #[.int .i64 2, .int .i64 0, .int .i64 1, .int .u64 0, .int .u64 1, .int .i64 0, .int .u64 1099511627774, .int .u64 1, .int .u64 0, .slice none 0 0, .slice none 0 0, .slice (some ⟨w10.heap.size + 1, 0, none⟩) 2 2, .int .u64 0, .slice none 0 0, .slice none 0 0] 32)).alloc (.cells #[.int .u64 1099511627774, .int .i64 1, .int .u64 1099511627774, .int .i64 1] 53) = wx := ⟨_, rfl⟩
  obtain ⟨kT, hbT, hfT⟩ := feed_at w10 (l := [(1099511627774, 1), (1099511627774, 1)]) (n := 2) hwT (fun W g h => ranks2 (a := 1099511627774) (b := 1) (a' := 1099511627774) (b' := 1) h) (by decide) (fun r hr => by simp at hr; subst hr; exact ⟨by simp [U64], by simp [I64]⟩)
  rw [hwT]
  clear hwT
  have HMT := Lib.hid (fun wx (kx : Keep w11 wx) => gmay_any _ _ wx (hfT.later kx))
  rw [decide_eq_false (show ¬ MayF (feedF [(1099511627774, 1), (1099511627774, 1)]) from may_twice)] at HMT
  obtain ⟨g10, hgT⟩ : ∃ g, w10.heap.size = g := ⟨_, rfl⟩
  rw [hgT] at hbT HMT ⊢
  simp only [frCells, feedM, feedF] at HMT
  have HBT : Hid (∀ wr, Keep w11 wr → (wr.cell? ⟨g10, 0, none⟩ = some (.int .i64 2) ∧ wr.cell? ⟨g10, 1, none⟩ = some (.int .i64 0) ∧ wr.cell? ⟨g10, 2, none⟩ = some (.int .i64 1) ∧ wr.cell? ⟨g10, 3, none⟩ = some (.int .u64 0) ∧ wr.cell? ⟨g10, 4, none⟩ = some (.int .u64 1)) ∧ (wr.cell? ⟨g10, 5, none⟩ = some (.int .i64 0) ∧ wr.cell? ⟨g10, 6, none⟩ = some (.int .u64 1099511627774) ∧ wr.cell? ⟨g10, 7, none⟩ = some (.int .u64 1) ∧ wr.cell? ⟨g10, 8, none⟩ = some (.int .u64 0)) ∧ (wr.cell? ⟨g10, 9, none⟩ = some (.slice none 0 0) ∧ wr.cell? ⟨g10, 10, none⟩ = some (.slice none 0 0) ∧ wr.cell? ⟨g10, 11, none⟩ = some (.slice (some ⟨g10 + 1, 0, none⟩) 2 2)) ∧ wr.cell? ⟨g10, 12, none⟩ = some (.int .u64 0) ∧ wr.cell? ⟨g10, 13, none⟩ = some (.slice none 0 0) ∧ wr.cell? ⟨g10, 14, none⟩ = some (.slice none 0 0)) := fun wr kr => (hbT.keep kr).cells
  have KT : Hid (Keep w7 w11) := KF.out.trans kT
  have JT : Hid (Keep w10 w11) := kT
  clear hbT hfT hgT kT
  go_wp2_with fail
  refine (gmember_any w11).mono ?_
  rintro e wm ⟨⟨⟨mc, mcn, mcc⟩, ⟨mp, mpn, mpc⟩, ⟨mr, mrn, mrc⟩, ⟨mu, mun, muc⟩, ⟨mh, mhn, mhc⟩⟩, rfl, hmL, kkL⟩
  have KKL : Hid (Keep w7 wm) := KT.out.trans kkL
  have JJL : Hid (Keep w11 wm) := kkL
  clear kkL
  simp only [frCells, memF, show ((0 : Nat) : Int) = 0 from rfl, show ((1 : Nat) : Int) = 1 from rfl]
  go_upto_region 19 with fail
  obtain ⟨w12, hwL⟩ : ∃ wx, ((wm.alloc (.cells #[.int .i64 5, .int .i64 2, .int .i64 2, .int .u64 0, .int .u64 0, .int .i64 0, .int .u64 0, .int .u64 0, .int .u64 0, .slice mc mcn mcc, .slice mp mpn mpc, .slice mr mrn mrc, .int .u64 1, .slice mu mun muc, .slice (some ⟨wm.heap.size + 1 + 1, 0, none⟩) 1 1] 32)).alloc (.cells #[.int .i64 0, .int .i64 3] 57)).alloc (.cells #[.slice (some ⟨wm.heap.size + 1, 0, none⟩) 1 1] 51) = wx := ⟨_, rfl⟩
  obtain ⟨kL, hbL, hfL⟩ := hop_at wm (l := [[(0, 3)]]) (n := 1) hmL hwL (fun W h1 h2 => hops_one h1 h2) (by decide) (fun e he r hr => by simp at he; subst he; simp at hr; subst hr; exact ⟨by simp [I64], by simp [I64]⟩)
  rw [hwL]
  clear hwL
  have HML := Lib.hid (fun wx (kx : Keep w12 wx) => gmay_any _ _ wx (hfL.later kx))
  rw [decide_eq_false (show ¬ MayF (hopF [[(0, 3)]]) from may_loose)] at HML
  obtain ⟨g11, hgL⟩ : ∃ g, wm.heap.size = g := ⟨_, rfl⟩
  rw [hgL] at hbL HML ⊢
  simp only [frCells, hopM, hopF] at HML
  have HBL : Hid (∀ wr, Keep w12 wr → (wr.cell? ⟨g11, 0, none⟩ = some (.int .i64 5) ∧ wr.cell? ⟨g11, 1, none⟩ = some (.int .i64 2) ∧ wr.cell? ⟨g11, 2, none⟩ = some (.int .i64 2) ∧ wr.cell? ⟨g11, 3, none⟩ = some (.int .u64 0) ∧ wr.cell? ⟨g11, 4, none⟩ = some (.int .u64 0)) ∧ (wr.cell? ⟨g11, 5, none⟩ = some (.int .i64 0) ∧ wr.cell? ⟨g11, 6, none⟩ = some (.int .u64 0) ∧ wr.cell? ⟨g11, 7, none⟩ = some (.int .u64 0) ∧ wr.cell? ⟨g11, 8, none⟩ = some (.int .u64 0)) ∧ (wr.cell? ⟨g11, 9, none⟩ = some (.slice mc mcn mcc) ∧ wr.cell? ⟨g11, 10, none⟩ = some (.slice mp mpn mpc) ∧ wr.cell? ⟨g11, 11, none⟩ = some (.slice mr mrn mrc)) ∧ wr.cell? ⟨g11, 12, none⟩ = some (.int .u64 1) ∧ wr.cell? ⟨g11, 13, none⟩ = some (.slice mu mun muc) ∧ wr.cell? ⟨g11, 14, none⟩ = some (.slice (some ⟨g11 + 1 + 1, 0, none⟩) 1 1)) := fun wr kr => (hbL.keep kr).cells
  have KL : Hid (Keep w7 w12) := KKL.out.trans kL
  have JL : Hid (Keep wm w12) := kL
  clear hbL hfL hgL kL
  clear hmL
  go_wp2_with fail
  refine (gmember_any w12).mono ?_
  rintro e wq ⟨⟨⟨qc, qcn, qcc⟩, ⟨qp, qpn, qpc⟩, ⟨qr, qrn, qrc⟩, ⟨qu, qun, quc⟩, ⟨qh, qhn, qhc⟩⟩, rfl, hmE, kkE⟩
  have KKE : Hid (Keep w7 wq) := KL.out.trans kkE
  have JJE : Hid (Keep w12 wq) := kkE
  clear kkE
  simp only [frCells, memF, show ((0 : Nat) : Int) = 0 from rfl, show ((1 : Nat) : Int) = 1 from rfl]
  go_upto_region 21 with fail
  obtain ⟨w13, hwE⟩ : ∃ wx, ((wq.alloc (.cells #[.int .i64 5, .int .i64 2, .int .i64 2, .int .u64 0, .int .u64 0, .int .i64 0, .int .u64 0, .int .u64 0, .int .u64 0, .slice qc qcn qcc, .slice qp qpn qpc, .slice qr qrn qrc, .int .u64 1, .slice qu qun quc, .slice (some ⟨wq.heap.size + 1 + 1, 0, none⟩) 2 2] 32)).alloc (.cells #[] 57)).alloc (.cells #[.slice none 0 0, .slice (some ⟨wq.heap.size + 1, 0, none⟩) 0 0] 51) = wx := ⟨_, rfl⟩
  obtain ⟨kE, hbE, hfE⟩ := hop_at wq (l := [[], []]) (n := 2) hmE hwE (fun W h1 h2 => hops_two h2) (by decide) (fun e he r hr => by simp at he; subst he; simp at hr)
  rw [hwE]
  clear hwE
  have HME := Lib.hid (fun wx (kx : Keep w13 wx) => gmay_any _ _ wx (hfE.later kx))
  rw [decide_eq_true (show MayF (hopF [[], []]) from may_empty)] at HME
  obtain ⟨g12, hgE⟩ : ∃ g, wq.heap.size = g := ⟨_, rfl⟩
  rw [hgE] at hbE HME ⊢
  simp only [frCells, hopM, hopF] at HME
  have HBE : Hid (∀ wr, Keep w13 wr → (wr.cell? ⟨g12, 0, none⟩ = some (.int .i64 5) ∧ wr.cell? ⟨g12, 1, none⟩ = some (.int .i64 2) ∧ wr.cell? ⟨g12, 2, none⟩ = some (.int .i64 2) ∧ wr.cell? ⟨g12, 3, none⟩ = some (.int .u64 0) ∧ wr.cell? ⟨g12, 4, none⟩ = some (.int .u64 0)) ∧ (wr.cell? ⟨g12, 5, none⟩ = some (.int .i64 0) ∧ wr.cell? ⟨g12, 6, none⟩ = some (.int .u64 0) ∧ wr.cell? ⟨g12, 7, none⟩ = some (.int .u64 0) ∧ wr.cell? ⟨g12, 8, none⟩ = some (.int .u64 0)) ∧ (wr.cell? ⟨g12, 9, none⟩ = some (.slice qc qcn qcc) ∧ wr.cell? ⟨g12, 10, none⟩ = some (.slice qp qpn qpc) ∧ wr.cell? ⟨g12, 11, none⟩ = some (.slice qr qrn qrc)) ∧ wr.cell? ⟨g12, 12, none⟩ = some (.int .u64 1) ∧ wr.cell? ⟨g12, 13, none⟩ = some (.slice qu qun quc) ∧ wr.cell? ⟨g12, 14, none⟩ = some (.slice (some ⟨g12 + 1 + 1, 0, none⟩) 2 2)) := fun wr kr => (hbE.keep kr).cells
  have KE : Hid (Keep w7 w13) := KKE.out.trans kE
  have JE : Hid (Keep wq w13) := kE
  clear hbE hfE hgE kE
  clear hmE
  have JY : Hid (Keep w12 w13) := JJE.out.trans JE.out
  have JX : Hid (Keep w11 w13) := (JJL.out.trans JL.out).trans JY.out
  have JW : Hid (Keep w10 w13) := JT.out.trans JX.out
  have JWR : Hid (Keep wr w13) := JF.out.trans JW.out
  clear JE JJE JL JJL JT JF KF KT KL KKL KKE
  have HK : Hid (Keep w w13) := KW7.out.trans KE.out
  exact known_last w13 w g6 g9 g10 g11 g12 mc mp mr mu mh qc qp qr qu qh mcn mcc mpn mpc mrn mrc mun muc mhn mhc qcn qcc qpn qpc qrn qrc qun quc qhn qhc (HT.out.keep JWR.out) HK.out (Lib.hid fun wr kr => HB6.out wr (KE.out.trans kr)) (Lib.hid fun wx kr => HMT0.out wx (KE.out.trans kr)) (Lib.hid fun wr kr => HBF.out wr (JW.out.trans kr)) (Lib.hid fun wx kr => HMF.out wx (JW.out.trans kr)) (Lib.hid fun wr kr => HBT.out wr (JX.out.trans kr)) (Lib.hid fun wx kr => HMT.out wx (JX.out.trans kr)) (Lib.hid fun wr kr => HBL.out wr (JY.out.trans kr)) (Lib.hid fun wx kr => HML.out wx (JY.out.trans kr)) (Lib.hid fun wr kr => HBE.out wr kr) (Lib.hid fun wx kr => HME.out wx kr) _ _ _ _ _ _ _ _ _ _ _ _ _ _ _ _ _ _ _ _ _ _ _ _ _ _ _ _ _ _ _ _ _ _ _ _ _ _ _ _ _ _ _ _ _ _ _ _ _ _ _ _ _ _ _ _ _ _ _ _ _ _ _ _ _ _ _ _ _ _ _ _ _ _ _ _ _ _ _ _ _ _ _ _ _ _ _ _ _ _ _ _ _ _ _ _ _ _ _ _ _ _ _ _ _ _ _ _ _ _ (by assumption)
end Go.Proofs.YtgkihfemlbhioaaDoor
