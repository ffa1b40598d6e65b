/- The walk of FrameBack. -/
import Derived.Test.YtgkihfemlbhioaaDoorLbad
import Derived.StillTailTactics
namespace Go.Proofs.YtgkihfemlbhioaaDoor
open Go.RowKit Fr Crc
set_option linter.unusedVariables false
set_option linter.unusedSimpArgs false
set_option maxRecDepth 100000 in
set_option maxHeartbeats 16000000 in
theorem back_ok (m : FrM) (f : FrV) (n c z turn : Nat) (A : Option Addr) (xs : List Nat) (W : World) (hT : TabW W) (hf : FrIn W W.heap.size m f) (hb : Bytes W W.heap.size A n xs) (hn : n ≤ 140737488351232) (hc : n ≤ c) (hz : z < 4294967296) (ht : turn < 4294967296) (hm : MayF f) :
    Calls Tryd.prog 4 #[.agg (frCells m f), .slice A n c, .int .u32 (z : Int), .int .u32 (turn : Int)] W fun e w' => e = .returned (.bool true) ∧ Keep W w' := by
  have HT := Lib.hid hT
  have HB := Lib.hid hb
  have HC := Lib.hid hc
  have HA := Lib.hid hb.all
  have EL : Hid (tkE xs = 3 ↔ 70000 < n) := by
    show _ ↔ _
    rw [take_long, hb.length]
  obtain ⟨w2, hw2⟩ : ∃ w2, W.alloc (.cells (frCells m f) 32) = w2 := ⟨_, rfl⟩
  obtain ⟨k2, hbox⟩ := fr_box W _ m f hw2
  have HP := Lib.hid (gput_any m f w2 (hT.keep k2) (hf.later k2))
  have HMY := Lib.hid (fun wx (kx : Keep w2 wx) => gmay_any m f wx ((hf.later k2).later kx))
  rw [put_ok hm] at HP
  rw [decide_eq_true hm] at HMY
  have HTF := Lib.hid (take_put hm)
  have HGE : Hid (23 ≤ (putV f).length ∧ (putV f).length ≤ 70000) := ⟨by rw [put_len hm]; unfold sizeF; omega, by rw [put_len hm]; have := size_le hm; omega⟩
  have HSM := Lib.hid (fun (m' : FrM) wx (kx : Keep w2 wx) (h' : FrIn wx wx.heap.size m' f) => gsame_any m' m f f wx h' ((hf.later k2).later kx))
  rw [decide_eq_true (rfl : f = f)] at HSM
  have HTU : Hid (∀ bit, bit + 32 ≤ 8 * (putV f).length → tkE (flipN (putV f) bit turn 32) = if turn = 0 then 0 else 20) := fun bit h => take_turned hm hf.bytes bit turn ht h
  have HBX : Hid (∀ (wa : World) (m' : FrM) (wb : World), wa.alloc (.cells (frCells m' f) 32) = wb → Keep wa wb ∧ ∀ wr, Keep wb wr → FrBox wr wa.heap.size 32 m' f) := fun wa m' wb h => fr_box wa _ m' f h
  have HFX := Lib.hid (rfl : f = f)
  obtain ⟨PV, hPV⟩ : ∃ x, putV f = x := ⟨_, rfl⟩
  rw [hPV] at HP HTF HGE HTU
  clear hPV HFX
  obtain ⟨g, hg⟩ : ∃ g, W.heap.size = g := ⟨_, rfl⟩
  rw [hg] at hbox
  clear hf hT hm hb
  obtain ⟨k, s, d, ep, lf, fl, gn, sq, fo, co, pay, rk, te, up, hp⟩ := f
  obtain ⟨⟨Ac, nc, cc⟩, ⟨Ap, np, cp⟩, ⟨Ar, nr, cr⟩, ⟨Au, nu, cu⟩, ⟨Ah, nh, ch⟩⟩ := m
  simp only [frCells] at hw2 HP HMY HSM HBX
  obtain ⟨⟨x0, x1, x2, x3, x4⟩, ⟨x5, x6, x7, x8⟩, ⟨x9, x10, x11⟩, x12, x13, x14⟩ := (hbox w2 (Keep.refl w2)).cells
  dsimp only at x0 x1 x2 x3 x4 x5 x6 x7 x8 x9 x10 x11 x12 x13 x14
  have HBOX := Lib.hid hbox
  have K2 := Lib.hid k2
  clear hbox k2
  simp only [frCells]
  go_enter Tryd.func4, Tryd.ntmps4
  go_wp2_with fail
  refine HP.out.mono ?_
  rintro e w3 ⟨A3, n3, c3, rfl, o3, k3⟩
  clear x0 x1 x2 x3 x4 x5 x6 x7 x8 x9 x10 x11 x12 x13 x14 hw2 hg
  have hge := HGE.out
  rw [o3.length] at hge
  obtain ⟨g3, rfl, hg3, hglt⟩ := o3.block (by omega)
  obtain ⟨⟨y0, y1, y2, y3, y4⟩, ⟨y5, y6, y7, y8⟩, ⟨y9, y10, y11⟩, y12, y13, y14⟩ := (HBOX.out w3 k3).cells
  dsimp only at y0 y1 y2 y3 y4 y5 y6 y7 y8 y9 y10 y11 y12 y13 y14
  have K3 := Lib.hid k3
  have O3 := Lib.hid o3
  have hcap := own_le' o3
  clear o3 k3
  go_wp2_with fail
  refine (HMY.out w3 K3.out).mono ?_
  rintro e w4 ⟨rfl, k4⟩
  have K4 : Hid (Keep w2 w4) := K3.out.trans k4
  have O4 := Lib.hid (O3.out.keep k4)
  clear k4 HP HMY K3 O3 y0 y1 y2 y3 y4 y5 y6 y7 y8 y9 y10 y11 y12 y13 y14
  have HTK := Lib.hid (gtake_any w4.heap.size n3 c3 _ PV w4 (HT.out.keep (K2.out.trans K4.out)) O4.out.bytes (Nat.le_refl _) (by omega) hcap)
  go_wp2_with fail
  refine HTK.out.mono ?_
  rintro e w5 ⟨⟨⟨Yc, yc, dc⟩, ⟨Yp, yp, dp⟩, ⟨Yr, yr, dr⟩, ⟨Yu, yu, du⟩, ⟨Yh, yh, dh⟩⟩, rfl, h5, k5⟩
  rw [HTF.out.1, HTF.out.2, show (((0 : Nat) : Int)) = 0 from rfl]
  rw [HTF.out.2] at h5
  simp only [frCells]
  obtain ⟨w6, hw6⟩ : ∃ wx, w5.alloc (.cells #[.int .i64 k, .int .i64 s, .int .i64 d, .int .u64 (ep : Int), .int .u64 (lf : Int), .int .i64 fl, .int .u64 (gn : Int), .int .u64 (sq : Int), .int .u64 (fo : Int), .slice Yc yc dc, .slice Yp yp dp, .slice Yr yr dr, .int .u64 (te : Int), .slice Yu yu du, .slice Yh yh dh] 32) = wx := ⟨_, rfl⟩
  obtain ⟨k6, hb6⟩ := HBX.out w5 ⟨⟨Yc, yc, dc⟩, ⟨Yp, yp, dp⟩, ⟨Yr, yr, dr⟩, ⟨Yu, yu, du⟩, ⟨Yh, yh, dh⟩⟩ w6 hw6
  have K6 : Hid (Keep w2 w6) := (K4.out.trans k5).trans k6
  have H6 := Lib.hid (HSM.out ⟨⟨Yc, yc, dc⟩, ⟨Yp, yp, dp⟩, ⟨Yr, yr, dr⟩, ⟨Yu, yu, du⟩, ⟨Yh, yh, dh⟩⟩ w6 K6.out (h5.later k6))
  dsimp only at H6
  have O6 := Lib.hid (O4.out.keep (k5.trans k6))
  obtain ⟨g6, hg6⟩ : ∃ g, w5.heap.size = g := ⟨_, rfl⟩
  rw [hg6] at hb6
  have HW6 := Lib.hid hw6
  have HG6 := Lib.hid hg6
  have HB6 := Lib.hid hb6
  clear h5 k5 k6 hw6 hg6 hb6 HTK O4 K4
  go_upto_region 6 with fail
  rw [HW6.out, HG6.out]
  obtain ⟨⟨y0, y1, y2, y3, y4⟩, ⟨y5, y6, y7, y8⟩, ⟨y9, y10, y11⟩, y12, y13, y14⟩ := (HB6.out w6 (Keep.refl _)).cells
  dsimp only at y0 y1 y2 y3 y4 y5 y6 y7 y8 y9 y10 y11 y12 y13 y14
  obtain ⟨⟨u0, u1, u2, u3, u4⟩, ⟨u5, u6, u7, u8⟩, ⟨u9, u10, u11⟩, u12, u13, u14⟩ := (HBOX.out w6 K6.out).cells
  dsimp only at u0 u1 u2 u3 u4 u5 u6 u7 u8 u9 u10 u11 u12 u13 u14
  go_wp2_with fail
  refine H6.out.mono ?_
  rintro e w7 ⟨rfl, k7⟩
  have K7 : Hid (Keep w2 w7) := K6.out.trans k7
  have O7 := Lib.hid (O6.out.keep k7)
  clear k7 K6 O6 H6 HSM HBX y0 y1 y2 y3 y4 y5 y6 y7 y8 y9 y10 y11 y12 y13 y14 u0 u1 u2 u3 u4 u5 u6 u7 u8 u9 u10 u11 u12 u13 u14
  obtain ⟨q8, hq8⟩ : ∃ q8, 8 * n3 - 31 = q8 := ⟨_, rfl⟩
  have e3 : 8 * (n3 : Int) - 31 = (q8 : Int) := by omega
  have e4 : (q8 : Int) ≠ 0 := by omega
  obtain ⟨bit, hbit⟩ : ∃ bit, z % q8 = bit := ⟨_, rfl⟩
  have hbl : bit < q8 := by rw [← hbit]; exact Nat.mod_lt _ (by omega)
  have e5 : (z : Int) % (q8 : Int) = (bit : Int) := by rw [← hbit]; simp
  have e6 : (0 : Int) ≤ (q8 : Int) := Int.natCast_nonneg _
  have e7 : IntKind.u32.wrap (q8 : Int) = (q8 : Int) := by rw [IntKind.wrap_u32']; omega
  have e8 : ((z : Int)).tmod (q8 : Int) = (bit : Int) := by rw [Int.tmod_eq_emod_of_nonneg (by omega)]; exact e5
  have e9 : IntKind.i64.wrap (bit : Int) = (bit : Int) := IntWalk.i64_in _ (by omega)
  have n7 : ¬ (70000 : Int) < (n3 : Int) := by omega
  have HM := Lib.hid hq8
  clear hq8 hbit
  go_wp2_with fail
  clear e3 e4 e5 e6 e7 e8 n7
  go_loopw [14] (fun i wr => ∃ j : Nat, j ≤ 32 ∧ i = .int .i64 j ∧ Own wr w2.heap.size 5 (some ⟨g3, 0, none⟩) n3 c3 (flipN PV bit turn j) ∧ Keep w2 wr) (fun i _ => 32 - (intOf i).toNat)
  case atStart => exact ⟨0, by omega, rfl, O7.out, K7.out⟩
  case round =>
    clear O7 K7
    obtain ⟨j, hj, rfl, hown, hkeep⟩ := hrel
    by_cases hlt : j < 32
    · as_aux_lemma =>
        obtain ⟨kk, hk⟩ : ∃ kk, bit + j = kk := ⟨_, rfl⟩
        have x1 : (bit : Int) + (j : Int) = (kk : Int) := by omega
        have hk8 : kk < 8 * n3 := by have := HM.out; omega
        obtain ⟨q, hq⟩ : ∃ q, kk / 8 = q := ⟨_, rfl⟩
        obtain ⟨r, hr⟩ : ∃ r, kk % 8 = r := ⟨_, rfl⟩
        have x2 : (kk : Int) / 8 = (q : Int) := by omega
        have x3 : (kk : Int) % 8 = (r : Int) := by omega
        have hqlt : q < n3 := by omega
        have hr8 : r < 8 := by omega
        have hc2 := hown.cell hqlt
        have hf := hown.frozen q
        have hv := hown.2.getD q
        have hfl : flipN PV bit turn (j + 1) = (flipN PV bit turn j).set q ((flipN PV bit turn j).getD q 0 ^^^ turn / 2 ^ j % 2 * 2 ^ r) := by rw [flipN, hk, hq, hr]
        obtain ⟨t, htv⟩ : ∃ t, turn / 2 ^ j % 2 = t := ⟨_, rfl⟩
        obtain ⟨s1, hs⟩ : ∃ s, t * 2 ^ r = s := ⟨_, rfl⟩
        have hs2 : s1 < 256 := by rw [← hs, ← htv]; exact bit_lt _ _ hr8
        generalize (flipN PV bit turn j).getD q 0 = v at *
        rw [htv, hs] at hfl
        obtain ⟨u, hu⟩ : ∃ u, v ^^^ s1 = u := ⟨_, rfl⟩
        have hu2 : u < 256 := by rw [← hu]; exact Nat.xor_lt_two_pow (n := 8) hv hs2
        have bx : bits .xor .u8 (v : Int) (s1 : Int) = (u : Int) := by rw [← hu]; exact u8_xor_nat v s1 hv hs2
        have HO : Hid (Own (wr.setCell ⟨g3, q, none⟩ (.int .u8 (u : Int))) w2.heap.size 5 (some ⟨g3, 0, none⟩) n3 c3 (flipN PV bit turn (j + 1))) := by
          show Own _ _ _ _ _ _ _
          rw [hfl, hu]; exact hown.stored hu2
        have HK := Lib.hid (hkeep.setCell (a := ⟨g3, q, none⟩) hg3 (.int .u8 (u : Int)))
        have y1 : (0 : Int) ≤ (j : Int) := Int.natCast_nonneg _
        have y2 : (j : Int) < 32 := by omega
        have y3 : (0 : Int) ≤ (q : Int) := Int.natCast_nonneg _
        have y4 : (q : Int) < (n3 : Int) := by omega
        have y5 : (0 : Int) ≤ (r : Int) := Int.natCast_nonneg _
        have y6 : (r : Int) < 8 := by omega
        have w1' : IntKind.i64.wrap (q : Int) = (q : Int) := IntWalk.i64_in _ (by omega)
        have w2' : IntKind.i64.wrap (r : Int) = (r : Int) := IntWalk.i64_in _ (by omega)
        have y7 : ((q : Int)).toNat = q := Int.toNat_natCast q
        have tm : ((kk : Int)).tmod 8 = (r : Int) := by rw [Int.tmod_eq_emod_of_nonneg (by omega)]; exact x3
        have t2 : t < 2 := by rw [← htv]; exact Nat.mod_lt _ (by decide)
        have ba : bits .and .u32 ((turn : Int) / 2 ^ j) 1 = (t : Int) := by
          have e : (turn : Int) / 2 ^ j = ((turn / 2 ^ j : Nat) : Int) := by simp
          rw [e, show (1 : Int) = ((1 : Nat) : Int) from rfl, u32_and_nat _ _ (Nat.lt_of_le_of_lt (Nat.div_le_self _ _) ht) (by decide), nat_mask1, htv]
        have bs : IntKind.u8.wrap ((t : Int) * 2 ^ r) = (s1 : Int) := by
          have e : (t : Int) * 2 ^ r = (s1 : Int) := by rw [← hs]; simp
          rw [e, IntKind.wrap_u8']; omega
        have bw : IntKind.u8.wrap (t : Int) = (t : Int) := by rw [IntKind.wrap_u8']; omega
        clear hown hkeep hfl hu hk hq hr htv hs
        go_wp2_with fail
        refine wp_region_still_tail (w := wr) 15 (by kernel_rfl) (by kernel_rfl) ?_
        simp only [List.take_succ_cons, List.take_zero, List.drop_succ_cons, List.drop_zero]
        change wpStill _ _ (World.drew wr) _ _ _
        iterate 15 still_step
        refine wpStill_nil ?_
        change wpList _ _ _ _ _ (World.drew wr)
        go_wp2_with fail
        go_roundw
        case rel => exact ⟨j + 1, by omega, by go_num, HO.out.drew, HK.out.drew⟩
        case measure => simp [intOf]; omega
    · obtain rfl : j = 32 := by omega
      have hcap2 := own_le' hown
      have HKR : Hid (Keep W wr) := K2.out.trans hkeep
      have HTL := Lib.hid (gtake_any wr.heap.size n3 c3 _ _ wr (HT.out.keep HKR.out) hown.bytes (Nat.le_refl _) (by omega) hcap2)
      have HEE := HTU.out bit (by have := HM.out; have := hown.length; rw [flip_length] at this; omega)
      have y2 : ¬ (32 : Int) < 32 := by omega
      clear hown hkeep hcap2
      go_wp2_with fail
      refine HTL.out.mono ?_
      rintro e w8 ⟨m8, rfl, _, k8⟩
      have K8 : Hid (Keep W w8) := HKR.out.trans k8
      obtain ⟨V8, hV8⟩ : ∃ x, tkV (flipN PV bit turn 32) = x := ⟨_, rfl⟩
      rw [hV8]
      clear k8 hV8 HTL HKR
      by_cases h0 : turn = 0
      · subst h0
        rw [HEE, if_pos rfl, show (((0 : Nat) : Int)) = 0 from rfl]
        clear HEE HTU
        have KR := K8
        have HTB := Lib.hid (gtake_any W.heap.size n c A xs w8 (HT.out.keep KR.out) (HB.out.keep (Nat.le_refl _) KR.out) KR.out.size (by omega) HC.out)
        go_wp2_with fail
        refine HTB.out.mono ?_
        clear HTB
        rcases Nat.eq_zero_or_pos (tkE xs) with e0 | e1
        rotate_left
        · have e1 : tkE xs ≠ 0 := by omega
          rintro e wa ⟨⟨⟨Xc, xc, zc⟩, ⟨Xp, xp, zp⟩, ⟨Xr, xr, zr⟩, ⟨Xu, xu, zu⟩, ⟨Xh, xh, zh⟩⟩, rfl, hfa, ka⟩
          by_cases hl : 70000 < n
          · as_aux_lemma =>
              rw [take_err e1] at hfa
              rw [take_err e1]
              rw [show tkE xs = 3 from EL.out.2 hl, show (((3 : Nat) : Int)) = 3 from rfl]
              have hl2 : (70000 : Int) < (n : Int) := by omega
              have dl : decide ((70000 : Int) < (n : Int)) = true := decide_eq_true hl2
              simp only [frCells, noF, show ((0 : Nat) : Int) = 0 from rfl]
              obtain ⟨wb, hwb⟩ : ∃ wx, wa.alloc (.cells #[.int .i64 0, .int .i64 0, .int .i64 0, .int .u64 0, .int .u64 0, .int .i64 0, .int .u64 0, .int .u64 0, .int .u64 0, .slice Xc xc zc, .slice Xp xp zp, .slice Xr xr zr, .int .u64 0, .slice Xu xu zu, .slice Xh xh zh] 32) = wx := ⟨_, rfl⟩
              obtain ⟨kb, hbb⟩ := fr_box wa 32 ⟨⟨Xc, xc, zc⟩, ⟨Xp, xp, zp⟩, ⟨Xr, xr, zr⟩, ⟨Xu, xu, zu⟩, ⟨Xh, xh, zh⟩⟩ noF (w2 := wb) hwb
              have KB : Hid (Keep W wb) := (KR.out.trans ka).trans kb
              obtain ⟨gb, hgb⟩ : ∃ g, wa.heap.size = g := ⟨_, rfl⟩
              rw [hgb] at hbb
              have HSM := Lib.hid (fun wx (kx : Keep wb wx) => gsame_any ⟨⟨Xc, xc, zc⟩, ⟨Xp, xp, zp⟩, ⟨Xr, xr, zr⟩, ⟨Xu, xu, zu⟩, ⟨Xh, xh, zh⟩⟩ noM noF noF wx ((hfa.later kb).later kx) (FrIn.none_ _ _))
              rw [decide_eq_true (rfl : noF = noF)] at HSM
              simp only [frCells, noF, noM, show ((0 : Nat) : Int) = 0 from rfl] at HSM
              have HBB := Lib.hid hbb
              have HWB := Lib.hid hwb
              have HGB := Lib.hid hgb
              clear hfa ka kb hbb hwb hgb e1 hl
              go_upto_region 19 with fail
              rw [HWB.out, HGB.out]
              obtain ⟨⟨u0, u1, u2, u3, u4⟩, ⟨u5, u6, u7, u8⟩, ⟨u9, u10, u11⟩, u12, u13, u14⟩ := (HBB.out wb (Keep.refl _)).cells
              dsimp only [noF] at u0 u1 u2 u3 u4 u5 u6 u7 u8 u9 u10 u11 u12 u13 u14
              go_wp2_with fail
              refine (HSM.out wb (Keep.refl _)).mono ?_
              rintro e wc ⟨rfl, kc⟩
              have KC : Hid (Keep W wc) := KB.out.trans kc
              clear kc u0 u1 u2 u3 u4 u5 u6 u7 u8 u9 u10 u11 u12 u13 u14
              go_wp2_with fail
              refine (gawake_any wc (HT.out.keep KC.out)).mono ?_
              rintro e wd ⟨rfl, kd⟩
              have KD : Hid (Keep W wd) := KC.out.trans kd
              clear kd
              go_wp2_with fail
              go_ret
              exact ⟨rfl, KD.out⟩
          · as_aux_lemma =>
              rw [take_err e1] at hfa
              rw [take_err e1]
              have h3 : tkE xs ≠ 3 := fun e => hl (EL.out.1 e)
              obtain ⟨er, her⟩ : ∃ er, tkE xs = er := ⟨_, rfl⟩
              rw [her] at e1 h3 ⊢
              have hl2 : ¬ (70000 : Int) < (n : Int) := by omega
              have dl : decide ((70000 : Int) < (n : Int)) = false := decide_eq_false hl2
              have b0 : ((er : Int) == 0) = false := by rw [beq_eq_false_iff_ne]; omega
              have b1 : ((er : Int) != 0) = true := by rw [bne, b0]; rfl
              have b3 : ((er : Int) == 3) = false := by rw [beq_eq_false_iff_ne]; omega
              have b4 : (er : Int) ≠ 0 := by omega
              simp only [frCells, noF, show ((0 : Nat) : Int) = 0 from rfl]
              obtain ⟨wb, hwb⟩ : ∃ wx, wa.alloc (.cells #[.int .i64 0, .int .i64 0, .int .i64 0, .int .u64 0, .int .u64 0, .int .i64 0, .int .u64 0, .int .u64 0, .int .u64 0, .slice Xc xc zc, .slice Xp xp zp, .slice Xr xr zr, .int .u64 0, .slice Xu xu zu, .slice Xh xh zh] 32) = wx := ⟨_, rfl⟩
              obtain ⟨kb, hbb⟩ := fr_box wa 32 ⟨⟨Xc, xc, zc⟩, ⟨Xp, xp, zp⟩, ⟨Xr, xr, zr⟩, ⟨Xu, xu, zu⟩, ⟨Xh, xh, zh⟩⟩ noF (w2 := wb) hwb
              have KB : Hid (Keep W wb) := (KR.out.trans ka).trans kb
              obtain ⟨gb, hgb⟩ : ∃ g, wa.heap.size = g := ⟨_, rfl⟩
              rw [hgb] at hbb
              have HSM := Lib.hid (fun wx (kx : Keep wb wx) => gsame_any ⟨⟨Xc, xc, zc⟩, ⟨Xp, xp, zp⟩, ⟨Xr, xr, zr⟩, ⟨Xu, xu, zu⟩, ⟨Xh, xh, zh⟩⟩ noM noF noF wx ((hfa.later kb).later kx) (FrIn.none_ _ _))
              rw [decide_eq_true (rfl : noF = noF)] at HSM
              simp only [frCells, noF, noM, show ((0 : Nat) : Int) = 0 from rfl] at HSM
              have HBB := Lib.hid hbb
              have HWB := Lib.hid hwb
              have HGB := Lib.hid hgb
              clear hfa ka kb hbb hwb hgb e1 hl
              go_upto_region 19 with fail
              rw [HWB.out, HGB.out]
              obtain ⟨⟨u0, u1, u2, u3, u4⟩, ⟨u5, u6, u7, u8⟩, ⟨u9, u10, u11⟩, u12, u13, u14⟩ := (HBB.out wb (Keep.refl _)).cells
              dsimp only [noF] at u0 u1 u2 u3 u4 u5 u6 u7 u8 u9 u10 u11 u12 u13 u14
              go_wp2_with fail
              refine (HSM.out wb (Keep.refl _)).mono ?_
              rintro e wc ⟨rfl, kc⟩
              have KC : Hid (Keep W wc) := KB.out.trans kc
              clear kc u0 u1 u2 u3 u4 u5 u6 u7 u8 u9 u10 u11 u12 u13 u14
              go_wp2_with fail
              refine (gawake_any wc (HT.out.keep KC.out)).mono ?_
              rintro e wd ⟨rfl, kd⟩
              have KD : Hid (Keep W wd) := KC.out.trans kd
              clear kd
              go_wp2_with fail
              go_ret
              exact ⟨rfl, KD.out⟩
        · as_aux_lemma =>
            obtain ⟨pm, pb, pv⟩ := put_take HA.out e0
            rintro e wa ⟨ma, rfl, hfa, ka⟩
            rw [e0, show (((0 : Nat) : Int)) = 0 from rfl]
            obtain ⟨V, hV⟩ : ∃ x, tkV xs = x := ⟨_, rfl⟩
            rw [hV] at hfa pm pv ⊢
            obtain ⟨wb, hwb⟩ : ∃ wx, wa.alloc (.cells (frCells ma V) 32) = wx := ⟨_, rfl⟩
            obtain ⟨kb, hbb⟩ := fr_box wa 32 ma V hwb
            have KB : Hid (Keep W wb) := (KR.out.trans ka).trans kb
            have HPA := Lib.hid (gput_any ma V wb (HT.out.keep KB.out) (hfa.later kb))
            rw [put_ok pm, pv] at HPA
            have HMA := Lib.hid (fun wx (kx : Keep wb wx) => gmay_any ma V wx ((hfa.later kb).later kx))
            rw [decide_eq_true pm] at HMA
            obtain ⟨gb, hgb⟩ : ∃ g, wa.heap.size = g := ⟨_, rfl⟩
            rw [hgb] at hbb
            have HBB := Lib.hid hbb
            have HWB := Lib.hid hwb
            have HGB := Lib.hid hgb
            clear hfa ka kb hbb hwb hgb pm pb pv hV e0
            obtain ⟨v0, v1, v2, v3, v4, v5, v6, v7, v8, v9, v10, v11, v12, v13, v14⟩ := V
            obtain ⟨⟨Xc, xc, zc⟩, ⟨Xp, xp, zp⟩, ⟨Xr, xr, zr⟩, ⟨Xu, xu, zu⟩, ⟨Xh, xh, zh⟩⟩ := ma
            simp only [frCells] at HPA HMA HWB ⊢
            go_upto_region 20 with fail
            rw [HWB.out, HGB.out]
            obtain ⟨⟨u0, u1, u2, u3, u4⟩, ⟨u5, u6, u7, u8⟩, ⟨u9, u10, u11⟩, u12, u13, u14⟩ := (HBB.out wb (Keep.refl _)).cells
            dsimp only at u0 u1 u2 u3 u4 u5 u6 u7 u8 u9 u10 u11 u12 u13 u14
            go_wp2_with fail
            refine HPA.out.mono ?_
            rintro e wc ⟨A6, n6, c6, rfl, o6, k6⟩
            clear u0 u1 u2 u3 u4 u5 u6 u7 u8 u9 u10 u11 u12 u13 u14
            have K6 := Lib.hid k6
            have O6 := Lib.hid o6
            obtain ⟨⟨u0, u1, u2, u3, u4⟩, ⟨u5, u6, u7, u8⟩, ⟨u9, u10, u11⟩, u12, u13, u14⟩ := (HBB.out wc k6).cells
            dsimp only at u0 u1 u2 u3 u4 u5 u6 u7 u8 u9 u10 u11 u12 u13 u14
            clear k6 o6
            go_wp2_with fail
            refine (HMA.out wc K6.out).mono ?_
            rintro e wd ⟨rfl, kd⟩
            have KD : Hid (Keep W wd) := (KB.out.trans K6.out).trans kd
            have hq1 := run_str (O6.out.keep kd).bytes Tryd.underlying23 Tryd.underlying5 Tryd.underlying9 c6
            have hq2 := run_str (HB.out.keep (Nat.le_refl _) KD.out) Tryd.underlying23 Tryd.underlying5 Tryd.underlying9 c
            have hq3 : ((strN xs).toList == (strN xs).toList) = true := strN_eq rfl
            clear kd u0 u1 u2 u3 u4 u5 u6 u7 u8 u9 u10 u11 u12 u13 u14
            go_wp2_with fail
            refine (gawake_any wd (HT.out.keep KD.out)).mono ?_
            rintro e we ⟨rfl, ke⟩
            have KE : Hid (Keep W we) := KD.out.trans ke
            clear ke hq1 hq2 hq3
            go_wp2_with fail
            go_ret
            exact ⟨rfl, KE.out⟩
      · have b0' : ((turn : Int) == 0) = false := by rw [beq_eq_false_iff_ne]; omega
        have b1' : ((turn : Int) != 0) = true := by rw [bne, b0']; rfl
        rw [HEE, if_neg h0, show (((20 : Nat) : Int)) = 20 from rfl]
        clear HEE HTU h0
        have KR := K8
        have HTB := Lib.hid (gtake_any W.heap.size n c A xs w8 (HT.out.keep KR.out) (HB.out.keep (Nat.le_refl _) KR.out) KR.out.size (by omega) HC.out)
        go_wp2_with fail
        refine HTB.out.mono ?_
        clear HTB
        rcases Nat.eq_zero_or_pos (tkE xs) with e0 | e1
        rotate_left
        · have e1 : tkE xs ≠ 0 := by omega
          rintro e wa ⟨⟨⟨Xc, xc, zc⟩, ⟨Xp, xp, zp⟩, ⟨Xr, xr, zr⟩, ⟨Xu, xu, zu⟩, ⟨Xh, xh, zh⟩⟩, rfl, hfa, ka⟩
          by_cases hl : 70000 < n
          · as_aux_lemma =>
              rw [take_err e1] at hfa
              rw [take_err e1]
              rw [show tkE xs = 3 from EL.out.2 hl, show (((3 : Nat) : Int)) = 3 from rfl]
              have hl2 : (70000 : Int) < (n : Int) := by omega
              have dl : decide ((70000 : Int) < (n : Int)) = true := decide_eq_true hl2
              simp only [frCells, noF, show ((0 : Nat) : Int) = 0 from rfl]
              obtain ⟨wb, hwb⟩ : ∃ wx, wa.alloc (.cells #[.int .i64 0, .int .i64 0, .int .i64 0, .int .u64 0, .int .u64 0, .int .i64 0, .int .u64 0, .int .u64 0, .int .u64 0, .slice Xc xc zc, .slice Xp xp zp, .slice Xr xr zr, .int .u64 0, .slice Xu xu zu, .slice Xh xh zh] 32) = wx := ⟨_, rfl⟩
              obtain ⟨kb, hbb⟩ := fr_box wa 32 ⟨⟨Xc, xc, zc⟩, ⟨Xp, xp, zp⟩, ⟨Xr, xr, zr⟩, ⟨Xu, xu, zu⟩, ⟨Xh, xh, zh⟩⟩ noF (w2 := wb) hwb
              have KB : Hid (Keep W wb) := (KR.out.trans ka).trans kb
              obtain ⟨gb, hgb⟩ : ∃ g, wa.heap.size = g := ⟨_, rfl⟩
              rw [hgb] at hbb
              have HSM := Lib.hid (fun wx (kx : Keep wb wx) => gsame_any ⟨⟨Xc, xc, zc⟩, ⟨Xp, xp, zp⟩, ⟨Xr, xr, zr⟩, ⟨Xu, xu, zu⟩, ⟨Xh, xh, zh⟩⟩ noM noF noF wx ((hfa.later kb).later kx) (FrIn.none_ _ _))
              rw [decide_eq_true (rfl : noF = noF)] at HSM
              simp only [frCells, noF, noM, show ((0 : Nat) : Int) = 0 from rfl] at HSM
              have HBB := Lib.hid hbb
              have HWB := Lib.hid hwb
              have HGB := Lib.hid hgb
              clear hfa ka kb hbb hwb hgb e1 hl
              go_upto_region 19 with fail
              rw [HWB.out, HGB.out]
              obtain ⟨⟨u0, u1, u2, u3, u4⟩, ⟨u5, u6, u7, u8⟩, ⟨u9, u10, u11⟩, u12, u13, u14⟩ := (HBB.out wb (Keep.refl _)).cells
              dsimp only [noF] at u0 u1 u2 u3 u4 u5 u6 u7 u8 u9 u10 u11 u12 u13 u14
              go_wp2_with fail
              refine (HSM.out wb (Keep.refl _)).mono ?_
              rintro e wc ⟨rfl, kc⟩
              have KC : Hid (Keep W wc) := KB.out.trans kc
              clear kc u0 u1 u2 u3 u4 u5 u6 u7 u8 u9 u10 u11 u12 u13 u14
              go_wp2_with fail
              refine (gawake_any wc (HT.out.keep KC.out)).mono ?_
              rintro e wd ⟨rfl, kd⟩
              have KD : Hid (Keep W wd) := KC.out.trans kd
              clear kd
              go_wp2_with fail
              go_ret
              exact ⟨rfl, KD.out⟩
          · as_aux_lemma =>
              rw [take_err e1] at hfa
              rw [take_err e1]
              have h3 : tkE xs ≠ 3 := fun e => hl (EL.out.1 e)
              obtain ⟨er, her⟩ : ∃ er, tkE xs = er := ⟨_, rfl⟩
              rw [her] at e1 h3 ⊢
              have hl2 : ¬ (70000 : Int) < (n : Int) := by omega
              have dl : decide ((70000 : Int) < (n : Int)) = false := decide_eq_false hl2
              have b0 : ((er : Int) == 0) = false := by rw [beq_eq_false_iff_ne]; omega
              have b1 : ((er : Int) != 0) = true := by rw [bne, b0]; rfl
              have b3 : ((er : Int) == 3) = false := by rw [beq_eq_false_iff_ne]; omega
              have b4 : (er : Int) ≠ 0 := by omega
              simp only [frCells, noF, show ((0 : Nat) : Int) = 0 from rfl]
              obtain ⟨wb, hwb⟩ : ∃ wx, wa.alloc (.cells #[.int .i64 0, .int .i64 0, .int .i64 0, .int .u64 0, .int .u64 0, .int .i64 0, .int .u64 0, .int .u64 0, .int .u64 0, .slice Xc xc zc, .slice Xp xp zp, .slice Xr xr zr, .int .u64 0, .slice Xu xu zu, .slice Xh xh zh] 32) = wx := ⟨_, rfl⟩
              obtain ⟨kb, hbb⟩ := fr_box wa 32 ⟨⟨Xc, xc, zc⟩, ⟨Xp, xp, zp⟩, ⟨Xr, xr, zr⟩, ⟨Xu, xu, zu⟩, ⟨Xh, xh, zh⟩⟩ noF (w2 := wb) hwb
              have KB : Hid (Keep W wb) := (KR.out.trans ka).trans kb
              obtain ⟨gb, hgb⟩ : ∃ g, wa.heap.size = g := ⟨_, rfl⟩
              rw [hgb] at hbb
              have HSM := Lib.hid (fun wx (kx : Keep wb wx) => gsame_any ⟨⟨Xc, xc, zc⟩, ⟨Xp, xp, zp⟩, ⟨Xr, xr, zr⟩, ⟨Xu, xu, zu⟩, ⟨Xh, xh, zh⟩⟩ noM noF noF wx ((hfa.later kb).later kx) (FrIn.none_ _ _))
              rw [decide_eq_true (rfl : noF = noF)] at HSM
              simp only [frCells, noF, noM, show ((0 : Nat) : Int) = 0 from rfl] at HSM
              have HBB := Lib.hid hbb
              have HWB := Lib.hid hwb
              have HGB := Lib.hid hgb
              clear hfa ka kb hbb hwb hgb e1 hl
              go_upto_region 19 with fail
              rw [HWB.out, HGB.out]
              obtain ⟨⟨u0, u1, u2, u3, u4⟩, ⟨u5, u6, u7, u8⟩, ⟨u9, u10, u11⟩, u12, u13, u14⟩ := (HBB.out wb (Keep.refl _)).cells
              dsimp only [noF] at u0 u1 u2 u3 u4 u5 u6 u7 u8 u9 u10 u11 u12 u13 u14
              go_wp2_with fail
              refine (HSM.out wb (Keep.refl _)).mono ?_
              rintro e wc ⟨rfl, kc⟩
              have KC : Hid (Keep W wc) := KB.out.trans kc
              clear kc u0 u1 u2 u3 u4 u5 u6 u7 u8 u9 u10 u11 u12 u13 u14
              go_wp2_with fail
              refine (gawake_any wc (HT.out.keep KC.out)).mono ?_
              rintro e wd ⟨rfl, kd⟩
              have KD : Hid (Keep W wd) := KC.out.trans kd
              clear kd
              go_wp2_with fail
              go_ret
              exact ⟨rfl, KD.out⟩
        · as_aux_lemma =>
            obtain ⟨pm, pb, pv⟩ := put_take HA.out e0
            rintro e wa ⟨ma, rfl, hfa, ka⟩
            rw [e0, show (((0 : Nat) : Int)) = 0 from rfl]
            obtain ⟨V, hV⟩ : ∃ x, tkV xs = x := ⟨_, rfl⟩
            rw [hV] at hfa pm pv ⊢
            obtain ⟨wb, hwb⟩ : ∃ wx, wa.alloc (.cells (frCells ma V) 32) = wx := ⟨_, rfl⟩
            obtain ⟨kb, hbb⟩ := fr_box wa 32 ma V hwb
            have KB : Hid (Keep W wb) := (KR.out.trans ka).trans kb
            have HPA := Lib.hid (gput_any ma V wb (HT.out.keep KB.out) (hfa.later kb))
            rw [put_ok pm, pv] at HPA
            have HMA := Lib.hid (fun wx (kx : Keep wb wx) => gmay_any ma V wx ((hfa.later kb).later kx))
            rw [decide_eq_true pm] at HMA
            obtain ⟨gb, hgb⟩ : ∃ g, wa.heap.size = g := ⟨_, rfl⟩
            rw [hgb] at hbb
            have HBB := Lib.hid hbb
            have HWB := Lib.hid hwb
            have HGB := Lib.hid hgb
            clear hfa ka kb hbb hwb hgb pm pb pv hV e0
            obtain ⟨v0, v1, v2, v3, v4, v5, v6, v7, v8, v9, v10, v11, v12, v13, v14⟩ := V
            obtain ⟨⟨Xc, xc, zc⟩, ⟨Xp, xp, zp⟩, ⟨Xr, xr, zr⟩, ⟨Xu, xu, zu⟩, ⟨Xh, xh, zh⟩⟩ := ma
            simp only [frCells] at HPA HMA HWB ⊢
            go_upto_region 20 with fail
            rw [HWB.out, HGB.out]
            obtain ⟨⟨u0, u1, u2, u3, u4⟩, ⟨u5, u6, u7, u8⟩, ⟨u9, u10, u11⟩, u12, u13, u14⟩ := (HBB.out wb (Keep.refl _)).cells
            dsimp only at u0 u1 u2 u3 u4 u5 u6 u7 u8 u9 u10 u11 u12 u13 u14
            go_wp2_with fail
            refine HPA.out.mono ?_
            rintro e wc ⟨A6, n6, c6, rfl, o6, k6⟩
            clear u0 u1 u2 u3 u4 u5 u6 u7 u8 u9 u10 u11 u12 u13 u14
            have K6 := Lib.hid k6
            have O6 := Lib.hid o6
            obtain ⟨⟨u0, u1, u2, u3, u4⟩, ⟨u5, u6, u7, u8⟩, ⟨u9, u10, u11⟩, u12, u13, u14⟩ := (HBB.out wc k6).cells
            dsimp only at u0 u1 u2 u3 u4 u5 u6 u7 u8 u9 u10 u11 u12 u13 u14
            clear k6 o6
            go_wp2_with fail
            refine (HMA.out wc K6.out).mono ?_
            rintro e wd ⟨rfl, kd⟩
            have KD : Hid (Keep W wd) := (KB.out.trans K6.out).trans kd
            have hq1 := run_str (O6.out.keep kd).bytes Tryd.underlying23 Tryd.underlying5 Tryd.underlying9 c6
            have hq2 := run_str (HB.out.keep (Nat.le_refl _) KD.out) Tryd.underlying23 Tryd.underlying5 Tryd.underlying9 c
            have hq3 : ((strN xs).toList == (strN xs).toList) = true := strN_eq rfl
            clear kd u0 u1 u2 u3 u4 u5 u6 u7 u8 u9 u10 u11 u12 u13 u14
            go_wp2_with fail
            refine (gawake_any wd (HT.out.keep KD.out)).mono ?_
            rintro e we ⟨rfl, ke⟩
            have KE : Hid (Keep W we) := KD.out.trans ke
            clear ke hq1 hq2 hq3
            go_wp2_with fail
            go_ret
            exact ⟨rfl, KE.out⟩
theorem back_any (m : FrM) (f : FrV) (n c z turn : Nat) (A : Option Addr) (xs : List Nat) (W : World) (hT : TabW W) (hf : FrIn W W.heap.size m f) (hb : Bytes W W.heap.size A n xs) (hn : n ≤ 140737488351232) (hc : n ≤ c) (hz : z < 4294967296) (ht : turn < 4294967296) :
    Calls Tryd.prog 4 #[.agg (frCells m f), .slice A n c, .int .u32 (z : Int), .int .u32 (turn : Int)] W fun e w' => e = .returned (.bool true) ∧ Keep W w' := by
  by_cases hm : MayF f
  · exact back_ok m f n c z turn A xs W hT hf hb hn hc hz ht hm
  · exact back_bad m f n c z turn A xs W hT hf hb hn hc hz ht hm
end Go.Proofs.YtgkihfemlbhioaaDoor
