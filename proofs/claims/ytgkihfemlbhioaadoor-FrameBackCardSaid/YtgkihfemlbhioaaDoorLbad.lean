/- The walk of FrameBack. -/
import Derived.Test.YtgkihfemlbhioaaDoorGawk
import Derived.StillTailTactics
namespace Go.Proofs.YtgkihfemlbhioaaDoor
open Go.RowKit Fr Crc
set_option linter.unusedVariables false
set_option linter.unusedSimpArgs false
set_option maxRecDepth 100000 in
set_option maxHeartbeats 16000000 in
theorem back_bad (m : FrM) (f : FrV) (n c z turn : Nat) (A : Option Addr) (xs : List Nat) (W : World) (hT : TabW W) (hf : FrIn W W.heap.size m f) (hb : Bytes W W.heap.size A n xs) (hn : n ≤ 140737488351232) (hc : n ≤ c) (hz : z < 4294967296) (ht : turn < 4294967296) (hm : ¬ MayF f) :
    Calls Tryd.prog 4 #[.agg (frCells m f), .slice A n c, .int .u32 (z : Int), .int .u32 (turn : Int)] W fun e w' => e = .returned (.bool true) ∧ Keep W w' := by
  have HT := Lib.hid hT
  have HB := Lib.hid hb
  have HC := Lib.hid hc
  have HA := Lib.hid hb.all
  have EL : Hid (tkE xs = 3 ↔ 70000 < n) := by
    show _ ↔ _
    rw [take_long, hb.length]
  obtain ⟨w2, hw2⟩ : ∃ w2, W.alloc (.cells (frCells m f) 32) = w2 := ⟨_, rfl⟩
  obtain ⟨k2, hbox⟩ := fr_box W _ m f hw2
  have HP := Lib.hid (gput_any m f w2 (hT.keep k2) (hf.later k2))
  have HMY := Lib.hid (fun wx (kx : Keep w2 wx) => gmay_any m f wx ((hf.later k2).later kx))
  rw [show putE f = 1 from if_neg hm, show putV f = [] from if_neg hm] at HP
  rw [decide_eq_false hm] at HMY
  obtain ⟨g, hg⟩ : ∃ g, W.heap.size = g := ⟨_, rfl⟩
  rw [hg] at hbox
  clear hf hT hm hb
  obtain ⟨k, s, d, ep, lf, fl, gn, sq, fo, co, pay, rk, te, up, hp⟩ := f
  obtain ⟨⟨Ac, nc, cc⟩, ⟨Ap, np, cp⟩, ⟨Ar, nr, cr⟩, ⟨Au, nu, cu⟩, ⟨Ah, nh, ch⟩⟩ := m
  simp only [frCells] at hw2 HP HMY
  obtain ⟨⟨x0, x1, x2, x3, x4⟩, ⟨x5, x6, x7, x8⟩, ⟨x9, x10, x11⟩, x12, x13, x14⟩ := (hbox w2 (Keep.refl w2)).cells
  dsimp only at x0 x1 x2 x3 x4 x5 x6 x7 x8 x9 x10 x11 x12 x13 x14
  have HBOX := Lib.hid hbox
  have K2 := Lib.hid k2
  clear hbox k2
  simp only [frCells]
  go_enter Tryd.func4, Tryd.ntmps4
  go_wp2_with fail
  refine HP.out.mono ?_
  rintro e w3 ⟨A3, n3, c3, rfl, o3, k3⟩
  clear x0 x1 x2 x3 x4 x5 x6 x7 x8 x9 x10 x11 x12 x13 x14 hw2 hg
  obtain rfl : n3 = 0 := o3.length.symm
  obtain ⟨⟨y0, y1, y2, y3, y4⟩, ⟨y5, y6, y7, y8⟩, ⟨y9, y10, y11⟩, y12, y13, y14⟩ := (HBOX.out w3 k3).cells
  dsimp only at y0 y1 y2 y3 y4 y5 y6 y7 y8 y9 y10 y11 y12 y13 y14
  have K3 := Lib.hid k3
  clear o3 k3
  go_wp2_with fail
  refine (HMY.out w3 K3.out).mono ?_
  rintro e w4 ⟨rfl, k4⟩
  have K4 : Hid (Keep W w4) := (K2.out.trans K3.out).trans k4
  clear k4 HP HMY y0 y1 y2 y3 y4 y5 y6 y7 y8 y9 y10 y11 y12 y13 y14
  have KR := K4
  have HTB := Lib.hid (gtake_any W.heap.size n c A xs w4 (HT.out.keep KR.out) (HB.out.keep (Nat.le_refl _) KR.out) KR.out.size (by omega) HC.out)
  go_wp2_with fail
  refine HTB.out.mono ?_
  clear HTB
  rcases Nat.eq_zero_or_pos (tkE xs) with e0 | e1
  rotate_left
  · have e1 : tkE xs ≠ 0 := by omega
    rintro e wa ⟨⟨⟨Xc, xc, zc⟩, ⟨Xp, xp, zp⟩, ⟨Xr, xr, zr⟩, ⟨Xu, xu, zu⟩, ⟨Xh, xh, zh⟩⟩, rfl, hfa, ka⟩
    by_cases hl : 70000 < n
    · as_aux_lemma =>
        rw [take_err e1] at hfa
        rw [take_err e1]
        rw [show tkE xs = 3 from EL.out.2 hl, show (((3 : Nat) : Int)) = 3 from rfl]
        have hl2 : (70000 : Int) < (n : Int) := by omega
        have dl : decide ((70000 : Int) < (n : Int)) = true := decide_eq_true hl2
        simp only [frCells, noF, show ((0 : Nat) : Int) = 0 from rfl]
        obtain ⟨wb, hwb⟩ : ∃ wx, wa.alloc (.cells #[.int .i64 0, .int .i64 0, .int .i64 0, .int .u64 0, .int .u64 0, .int .i64 0, .int .u64 0, .int .u64 0, .int .u64 0, .slice Xc xc zc, .slice Xp xp zp, .slice Xr xr zr, .int .u64 0, .slice Xu xu zu, .slice Xh xh zh] 32) = wx := ⟨_, rfl⟩
        obtain ⟨kb, hbb⟩ := fr_box wa 32 ⟨⟨Xc, xc, zc⟩, ⟨Xp, xp, zp⟩, ⟨Xr, xr, zr⟩, ⟨Xu, xu, zu⟩, ⟨Xh, xh, zh⟩⟩ noF (w2 := wb) hwb
        have KB : Hid (Keep W wb) := (KR.out.trans ka).trans kb
        obtain ⟨gb, hgb⟩ : ∃ g, wa.heap.size = g := ⟨_, rfl⟩
        rw [hgb] at hbb
        have HSM := Lib.hid (fun wx (kx : Keep wb wx) => gsame_any ⟨⟨Xc, xc, zc⟩, ⟨Xp, xp, zp⟩, ⟨Xr, xr, zr⟩, ⟨Xu, xu, zu⟩, ⟨Xh, xh, zh⟩⟩ noM noF noF wx ((hfa.later kb).later kx) (FrIn.none_ _ _))
        rw [decide_eq_true (rfl : noF = noF)] at HSM
        simp only [frCells, noF, noM, show ((0 : Nat) : Int) = 0 from rfl] at HSM
        have HBB := Lib.hid hbb
        have HWB := Lib.hid hwb
        have HGB := Lib.hid hgb
        clear hfa ka kb hbb hwb hgb e1 hl
        go_upto_region 19 with fail
        rw [HWB.out, HGB.out]
        obtain ⟨⟨u0, u1, u2, u3, u4⟩, ⟨u5, u6, u7, u8⟩, ⟨u9, u10, u11⟩, u12, u13, u14⟩ := (HBB.out wb (Keep.refl _)).cells
        dsimp only [noF] at u0 u1 u2 u3 u4 u5 u6 u7 u8 u9 u10 u11 u12 u13 u14
        go_wp2_with fail
        refine (HSM.out wb (Keep.refl _)).mono ?_
        rintro e wc ⟨rfl, kc⟩
        have KC : Hid (Keep W wc) := KB.out.trans kc
        clear kc u0 u1 u2 u3 u4 u5 u6 u7 u8 u9 u10 u11 u12 u13 u14
        go_wp2_with fail
        refine (gawake_any wc (HT.out.keep KC.out)).mono ?_
        rintro e wd ⟨rfl, kd⟩
        have KD : Hid (Keep W wd) := KC.out.trans kd
        clear kd
        go_wp2_with fail
        go_ret
        exact ⟨rfl, KD.out⟩
    · as_aux_lemma =>
        rw [take_err e1] at hfa
        rw [take_err e1]
        have h3 : tkE xs ≠ 3 := fun e => hl (EL.out.1 e)
        obtain ⟨er, her⟩ : ∃ er, tkE xs = er := ⟨_, rfl⟩
        rw [her] at e1 h3 ⊢
        have hl2 : ¬ (70000 : Int) < (n : Int) := by omega
        have dl : decide ((70000 : Int) < (n : Int)) = false := decide_eq_false hl2
        have b0 : ((er : Int) == 0) = false := by rw [beq_eq_false_iff_ne]; omega
        have b1 : ((er : Int) != 0) = true := by rw [bne, b0]; rfl
        have b3 : ((er : Int) == 3) = false := by rw [beq_eq_false_iff_ne]; omega
        have b4 : (er : Int) ≠ 0 := by omega
        simp only [frCells, noF, show ((0 : Nat) : Int) = 0 from rfl]
        obtain ⟨wb, hwb⟩ : ∃ wx, wa.alloc (.cells #[.int .i64 0, .int .i64 0, .int .i64 0, .int .u64 0, .int .u64 0, .int .i64 0, .int .u64 0, .int .u64 0, .int .u64 0, .slice Xc xc zc, .slice Xp xp zp, .slice Xr xr zr, .int .u64 0, .slice Xu xu zu, .slice Xh xh zh] 32) = wx := ⟨_, rfl⟩
        obtain ⟨kb, hbb⟩ := fr_box wa 32 ⟨⟨Xc, xc, zc⟩, ⟨Xp, xp, zp⟩, ⟨Xr, xr, zr⟩, ⟨Xu, xu, zu⟩, ⟨Xh, xh, zh⟩⟩ noF (w2 := wb) hwb
        have KB : Hid (Keep W wb) := (KR.out.trans ka).trans kb
        obtain ⟨gb, hgb⟩ : ∃ g, wa.heap.size = g := ⟨_, rfl⟩
        rw [hgb] at hbb
        have HSM := Lib.hid (fun wx (kx : Keep wb wx) => gsame_any ⟨⟨Xc, xc, zc⟩, ⟨Xp, xp, zp⟩, ⟨Xr, xr, zr⟩, ⟨Xu, xu, zu⟩, ⟨Xh, xh, zh⟩⟩ noM noF noF wx ((hfa.later kb).later kx) (FrIn.none_ _ _))
        rw [decide_eq_true (rfl : noF = noF)] at HSM
        simp only [frCells, noF, noM, show ((0 : Nat) : Int) = 0 from rfl] at HSM
        have HBB := Lib.hid hbb
        have HWB := Lib.hid hwb
        have HGB := Lib.hid hgb
        clear hfa ka kb hbb hwb hgb e1 hl
        go_upto_region 19 with fail
        rw [HWB.out, HGB.out]
        obtain ⟨⟨u0, u1, u2, u3, u4⟩, ⟨u5, u6, u7, u8⟩, ⟨u9, u10, u11⟩, u12, u13, u14⟩ := (HBB.out wb (Keep.refl _)).cells
        dsimp only [noF] at u0 u1 u2 u3 u4 u5 u6 u7 u8 u9 u10 u11 u12 u13 u14
        go_wp2_with fail
        refine (HSM.out wb (Keep.refl _)).mono ?_
        rintro e wc ⟨rfl, kc⟩
        have KC : Hid (Keep W wc) := KB.out.trans kc
        clear kc u0 u1 u2 u3 u4 u5 u6 u7 u8 u9 u10 u11 u12 u13 u14
        go_wp2_with fail
        refine (gawake_any wc (HT.out.keep KC.out)).mono ?_
        rintro e wd ⟨rfl, kd⟩
        have KD : Hid (Keep W wd) := KC.out.trans kd
        clear kd
        go_wp2_with fail
        go_ret
        exact ⟨rfl, KD.out⟩
  · as_aux_lemma =>
      obtain ⟨pm, pb, pv⟩ := put_take HA.out e0
      rintro e wa ⟨ma, rfl, hfa, ka⟩
      rw [e0, show (((0 : Nat) : Int)) = 0 from rfl]
      obtain ⟨V, hV⟩ : ∃ x, tkV xs = x := ⟨_, rfl⟩
      rw [hV] at hfa pm pv ⊢
      obtain ⟨wb, hwb⟩ : ∃ wx, wa.alloc (.cells (frCells ma V) 32) = wx := ⟨_, rfl⟩
      obtain ⟨kb, hbb⟩ := fr_box wa 32 ma V hwb
      have KB : Hid (Keep W wb) := (KR.out.trans ka).trans kb
      have HPA := Lib.hid (gput_any ma V wb (HT.out.keep KB.out) (hfa.later kb))
      rw [put_ok pm, pv] at HPA
      have HMA := Lib.hid (fun wx (kx : Keep wb wx) => gmay_any ma V wx ((hfa.later kb).later kx))
      rw [decide_eq_true pm] at HMA
      obtain ⟨gb, hgb⟩ : ∃ g, wa.heap.size = g := ⟨_, rfl⟩
      rw [hgb] at hbb
      have HBB := Lib.hid hbb
      have HWB := Lib.hid hwb
      have HGB := Lib.hid hgb
      clear hfa ka kb hbb hwb hgb pm pb pv hV e0
      obtain ⟨v0, v1, v2, v3, v4, v5, v6, v7, v8, v9, v10, v11, v12, v13, v14⟩ := V
      obtain ⟨⟨Xc, xc, zc⟩, ⟨Xp, xp, zp⟩, ⟨Xr, xr, zr⟩, ⟨Xu, xu, zu⟩, ⟨Xh, xh, zh⟩⟩ := ma
      simp only [frCells] at HPA HMA HWB ⊢
      go_upto_region 20 with fail
      rw [HWB.out, HGB.out]
      obtain ⟨⟨u0, u1, u2, u3, u4⟩, ⟨u5, u6, u7, u8⟩, ⟨u9, u10, u11⟩, u12, u13, u14⟩ := (HBB.out wb (Keep.refl _)).cells
      dsimp only at u0 u1 u2 u3 u4 u5 u6 u7 u8 u9 u10 u11 u12 u13 u14
      go_wp2_with fail
      refine HPA.out.mono ?_
      rintro e wc ⟨A6, n6, c6, rfl, o6, k6⟩
      clear u0 u1 u2 u3 u4 u5 u6 u7 u8 u9 u10 u11 u12 u13 u14
      have K6 := Lib.hid k6
      have O6 := Lib.hid o6
      obtain ⟨⟨u0, u1, u2, u3, u4⟩, ⟨u5, u6, u7, u8⟩, ⟨u9, u10, u11⟩, u12, u13, u14⟩ := (HBB.out wc k6).cells
      dsimp only at u0 u1 u2 u3 u4 u5 u6 u7 u8 u9 u10 u11 u12 u13 u14
      clear k6 o6
      go_wp2_with fail
      refine (HMA.out wc K6.out).mono ?_
      rintro e wd ⟨rfl, kd⟩
      have KD : Hid (Keep W wd) := (KB.out.trans K6.out).trans kd
      have hq1 := run_str (O6.out.keep kd).bytes Tryd.underlying23 Tryd.underlying5 Tryd.underlying9 c6
      have hq2 := run_str (HB.out.keep (Nat.le_refl _) KD.out) Tryd.underlying23 Tryd.underlying5 Tryd.underlying9 c
      have hq3 : ((strN xs).toList == (strN xs).toList) = true := strN_eq rfl
      clear kd u0 u1 u2 u3 u4 u5 u6 u7 u8 u9 u10 u11 u12 u13 u14
      go_wp2_with fail
      refine (gawake_any wd (HT.out.keep KD.out)).mono ?_
      rintro e we ⟨rfl, ke⟩
      have KE : Hid (Keep W we) := KD.out.trans ke
      clear ke hq1 hq2 hq3
      go_wp2_with fail
      go_ret
      exact ⟨rfl, KE.out⟩
end Go.Proofs.YtgkihfemlbhioaaDoor
