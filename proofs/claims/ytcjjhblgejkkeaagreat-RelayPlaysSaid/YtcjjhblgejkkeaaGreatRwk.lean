/- What the chapter's rows say: layer 14's statements ask it first. -/
import Derived.Test.YtcjjhblgejkkeaaGreatRh1
namespace Go.Proofs.YtcjjhblgejkkeaaGreat
open Go.RowKit Lin
set_option linter.unusedVariables false
set_option linter.unusedSimpArgs false
theorem wk_one : ¬ inB 2 1 [] ([1, 0] ++ [5]) ∧ insB 2 1 [] ([1, 0] ++ [5]) = [[1, 0, 5]] := by decide +kernel
theorem wk_two : inB 2 1 [[1, 0, 5]] ([2, 0] ++ [10]) ∧ insB 2 1 [[1, 0, 5]] ([2, 0] ++ [10]) = [[1, 0, 5]] := by decide +kernel
theorem wk_three : ¬ inB 2 1 [] ([1, 1] ++ [9]) ∧ insB 2 1 [] ([1, 1] ++ [9]) = [[1, 1, 9]] := by decide +kernel
theorem wk_send : sendN 2 1 [[1, 0, 5]] 0 [] = [1, 0, 5] ∧ sendN 2 1 [[1, 0, 5]] 0 [3] = [3, 0, 15] := by decide +kernel
def wkL1 : Nat → List (List Nat) := upd (fun _ => []) 0 [[1, 0, 5]]
def wkL2 : Nat → List (List Nat) := upd (moveL 2 4 wkL1) 4 [[1, 1, 9]]
theorem wk_ranks : rksOf wkL2 (winL 2 4) = [(4, 1)] := by decide +kernel
theorem wk_at : wkL1 0 = [[1, 0, 5]] ∧ wkL1 1 = [] ∧ moveL 2 4 wkL1 4 = [] ∧ (wkL2 0).length = 0 := by decide +kernel
theorem rk_one {w : World} {b : Nat} {t : TypeId} (x y : Nat) (h : w.heap[b]? = some (.cells #[.int .u64 (x : Int), .int .i64 (y : Int)] t (0, 0))) : RkIn w (fun _ => True) (some ⟨b, 0, none⟩) 1 [(x, y)] :=
  ⟨rfl, fun _ => ⟨b, 0, rfl, trivial, (Array.getElem?_eq_some_iff.1 h).1, fun i z hz => by
    match i, hz with
    | 0, hz =>
      simp at hz
      subst hz
      exact ⟨cell_of_row _ _ _ _ _ _ h, cell_of_row _ _ _ _ _ _ h⟩
    | i + 1, hz => simp at hz⟩⟩
theorem two_lit (w : World) (x y : Nat) (hx : x < 256) (hy : y < 256) {w2 : World} (hw : w.alloc (.cells #[.int .u8 (x : Int), .int .u8 (y : Int)] 5) = w2) :
    Bytes w2 w2.heap.size (some ⟨w.heap.size, 0, none⟩) 2 [x, y] ∧ Keep w w2 := by
  subst hw
  have o1 := Own.lit w 5 2 [x, y] #[.int .u8 (x : Int), .int .u8 (y : Int)] rfl rfl (by decide) (fun z hz => by
    simp at hz
    rcases hz with rfl | rfl <;> assumption)
  exact ⟨o1.bytes, (Keep.refl w).alloc _ _⟩
set_option maxRecDepth 100000 in
set_option maxHeartbeats 2000000 in
theorem wakes_any (w : World) : Calls Tryz.prog 6 #[] w fun e w' => e = .returned (.bool true) ∧ Keep w w' := by
  go_enter Tryz.func6, Tryz.ntmps6
  go_wp2_with fail
  refine (relnew_in (g := 2) (s := 1) (k := 4) (by decide) (by decide) (by decide) (by decide) (by decide) (by decide) _).mono ?_
  rintro e w1 ⟨p, F1, rfl, r1, f1, k1⟩
  have R1 := Lib.hid r1
  have F1' := Lib.hid f1
  have K1 := Lib.hid k1
  clear r1 f1 k1
  go_wp2_with fail
  obtain ⟨wl2, hwl⟩ : ∃ wl, w1.alloc (.cells #[.int .u8 1, .int .u8 0] 5) = wl := ⟨_, rfl⟩
  have HL2 := Lib.hid (two_lit w1 1 0 (by decide) (by decide) hwl)
  rw [hwl]
  clear hwl
  refine (row_any 2 2 5 _ _ (by decide)).mono ?_
  rintro e w2 ⟨A2, c2, rfl, o2, l2, k2⟩
  have HB2 := Lib.hid (And.intro (HL2.out.1.keep (Nat.le_refl _) k2) (And.intro o2.bytes (And.intro k2.size l2)))
  have HK2 := Lib.hid (HL2.out.2.trans k2)
  clear o2 l2 k2 HL2
  go_wp2_with fail
  refine (rl_take_in (R1.out.keep HK2.out) 0 (by decide) (by decide) _ _ 2 c2 _ _ [1, 0] [5] (Nat.le_refl _) HB2.out.2.2.2 HB2.out.1 HB2.out.2.1 HB2.out.2.2.1 (Nat.le_refl _)).mono ?_
  rw [decide_eq_false wk_one.1, wk_one.2]
  rintro e w3 ⟨rfl, F3, r3, f3, t3⟩
  have R3 : Hid (RelR w3 F3 p 2 1 4 0 wkL1) := r3
  have F3' : Hid (∀ x, F3 x → w.heap.size ≤ x) := fun x hx => by
    rcases f3 x hx with e | e
    · exact F1'.out x e
    · have := K1.out.size; have := HK2.out.size; omega
  have K3 := Lib.hid (t3.keep (K1.out.trans HK2.out) F1'.out)
  clear r3 f3 t3 R1 F1' K1 HK2 HB2
  go_wp2_with fail
  obtain ⟨wl4, hwl⟩ : ∃ wl, w3.alloc (.cells #[.int .u8 2, .int .u8 0] 5) = wl := ⟨_, rfl⟩
  have HL4 := Lib.hid (two_lit w3 2 0 (by decide) (by decide) hwl)
  rw [hwl]
  clear hwl
  refine (row_any 2 2 10 _ _ (by decide)).mono ?_
  rintro e w4 ⟨A4, c4, rfl, o4, l4, k4⟩
  have HB4 := Lib.hid (And.intro (HL4.out.1.keep (Nat.le_refl _) k4) (And.intro o4.bytes (And.intro k4.size l4)))
  have HK4 := Lib.hid (HL4.out.2.trans k4)
  clear o4 l4 k4 HL4
  go_wp2_with fail
  refine (rl_take_in (R3.out.keep HK4.out) 0 (by decide) (by decide) _ _ 2 c4 _ _ [2, 0] [10] (Nat.le_refl _) HB4.out.2.2.2 HB4.out.1 HB4.out.2.1 HB4.out.2.2.1 (Nat.le_refl _)).mono ?_
  rw [wk_at.1, decide_eq_true wk_two.1, wk_two.2]
  rintro e w5 ⟨rfl, F5, r5, f5, t5⟩
  have R5 : Hid (RelR w5 F5 p 2 1 4 0 wkL1) := by
    have e : upd wkL1 0 [[1, 0, 5]] = wkL1 := by
      have := upd_same wkL1 0
      rwa [wk_at.1] at this
    rw [e] at r5; exact r5
  have F5' : Hid (∀ x, F5 x → w.heap.size ≤ x) := fun x hx => by
    rcases f5 x hx with e | e
    · exact F3'.out x e
    · have := K3.out.size; have := HK4.out.size; omega
  have K5 := Lib.hid (t5.keep (K3.out.trans HK4.out) F3'.out)
  clear r5 f5 t5 R3 F3' K3 HK4 HB4
  go_wp2_with fail
  obtain ⟨wl6, hwl⟩ : ∃ wl, w5.alloc (.cells #[.int .u8 1, .int .u8 1] 5) = wl := ⟨_, rfl⟩
  have HL6 := Lib.hid (two_lit w5 1 1 (by decide) (by decide) hwl)
  rw [hwl]
  clear hwl
  refine (row_any 2 2 9 _ _ (by decide)).mono ?_
  rintro e w6 ⟨A6, c6, rfl, o6, l6, k6⟩
  have HB6 := Lib.hid (And.intro (HL6.out.1.keep (Nat.le_refl _) k6) (And.intro o6.bytes (And.intro k6.size l6)))
  have HK6 := Lib.hid (HL6.out.2.trans k6)
  clear o6 l6 k6 HL6
  go_wp2_with fail
  refine (rl_take_out (R5.out.keep HK6.out) 4 (by decide) (by decide) _ _ _ _ _ _).mono ?_
  rintro e w7 ⟨rfl, k7⟩
  have R7 := Lib.hid (R5.out.keep (HK6.out.trans k7))
  have K7 := Lib.hid (K5.out.trans (HK6.out.trans k7))
  clear k7 HK6 HB6 R5 K5
  go_wp2_with fail
  refine (rl_send_in (B1 := 0) (m := 0) (Ab := none) (cb := 0) (xs := []) R7.out 0 0 (by decide) (by decide) (by decide) (by rw [wk_at.1]; decide) ⟨rfl, (fun _ h => by simp at h), fun h => absurd h (by decide)⟩ (Nat.zero_le _)).mono ?_
  rw [wk_at.1, wk_send.1]
  rintro e w8 ⟨A8, n8, c8, A9, n9, c9, rfl, o8, o9, k8⟩
  have n8e : n8 = 2 := o8.length.symm
  have n9e : n9 = 1 := o9.length.symm
  subst n8e n9e
  have HO8 := Lib.hid (And.intro o8 o9)
  have R8 := Lib.hid (R7.out.keep k8)
  have K8 := Lib.hid (K7.out.trans k8)
  clear o8 o9 k8 R7 K7
  go_wp2_with fail
  obtain ⟨wa, hwa⟩ : ∃ wa, w8.alloc (.cells #[.slice A8 2 c8, .slice A9 1 c9] 34) = wa := ⟨_, rfl⟩
  have hA := heap_alloc_new w8 (.cells #[.slice A8 2 c8, .slice A9 1 c9] 34)
  have ka : Keep w8 wa := by rw [← hwa]; exact (Keep.refl w8).alloc _ _
  have sa : wa.heap.size = w8.heap.size + 1 := by rw [← hwa]; simp
  obtain ⟨wb, hwb⟩ : ∃ wb, wa.alloc (.cells #[.int .u8 3] 5) = wb := ⟨_, rfl⟩
  have oB := Own.lit wa 5 1 [3] #[.int .u8 3] rfl rfl (by decide) (by decide)
  have kb : Keep wa wb := by rw [← hwb]; exact (Keep.refl wa).alloc _ _
  rw [hwa] at hA
  rw [hwb, sa] at oB
  rw [hwa, hwb]
  clear hwa hwb
  have HA9 := Lib.hid (And.intro ((kb.block _ (by omega)).trans hA) (And.intro (ka.trans kb) (by have := kb.size; omega : w8.heap.size < wb.heap.size)))
  refine (rl_send_in (R8.out.keep (ka.trans kb)) 0 0 (by decide) (by decide) (by decide) (by rw [wk_at.1]; decide) oB.bytes (Nat.le_refl _)).mono ?_
  rw [wk_at.1, wk_send.2]
  clear hA ka sa oB kb
  rintro e w10 ⟨A10, n10, c10, A11, n11, c11, rfl, o10, o11, k10⟩
  have n10e : n10 = 2 := o10.length.symm
  have n11e : n11 = 1 := o11.length.symm
  subst n10e n11e
  have K10 := Lib.hid (K8.out.trans (HA9.out.2.1.trans k10))
  have KR := Lib.hid (HA9.out.2.1.trans k10)
  have R10 := Lib.hid (R8.out.keep KR.out)
  have HC9 := Lib.hid ((k10.block _ HA9.out.2.2).trans HA9.out.1)
  have HO10 := Lib.hid (And.intro o10 o11)
  have HO8' := Lib.hid (And.intro (HO8.out.1.keep KR.out) (HO8.out.2.keep KR.out))
  have HS8 : Hid (w8.heap.size < w10.heap.size) := Nat.lt_of_lt_of_le HA9.out.2.2 k10.size
  clear o10 o11 k10 HA9 R8 K8 HO8 KR
  go_wp2_with fail
  obtain ⟨wc, hwc⟩ : ∃ wc, w10.alloc (.cells #[.slice A10 2 c10, .slice A11 1 c11] 34) = wc := ⟨_, rfl⟩
  have hC := heap_alloc_new w10 (.cells #[.slice A10 2 c10, .slice A11 1 c11] 34)
  have kc : Keep w10 wc := by rw [← hwc]; exact (Keep.refl w10).alloc _ _
  have sc : wc.heap.size = w10.heap.size + 1 := by rw [← hwc]; simp
  rw [hwc] at hC ⊢
  clear hwc
  refine (rl_send_none (R10.out.keep kc) 1 0 (by decide) (by decide) (by rw [wk_at.2.1]; rfl)).mono ?_
  rintro e w12 ⟨A12, n12, c12, A13, n13, c13, rfl, -, -, k12⟩
  have K12 := Lib.hid (K10.out.trans (kc.trans k12))
  have KR := Lib.hid (kc.trans k12)
  have R12 := Lib.hid (R10.out.keep KR.out)
  have HC9' := Lib.hid ((KR.out.block _ HS8.out).trans HC9.out)
  have HC11 := Lib.hid ((k12.block _ (by omega)).trans hC)
  have HX := Lib.hid (And.intro (HO8'.out.1.keep KR.out) (And.intro (HO8'.out.2.keep KR.out) (And.intro (HO10.out.1.keep KR.out) (HO10.out.2.keep KR.out))))
  have HS : Hid (w8.heap.size < w12.heap.size ∧ w10.heap.size < w12.heap.size) := by
    have h1 := HS8.out
    have h2 := k12.size
    exact ⟨by omega, by omega⟩
  clear hC kc sc k12 HC9 HO8' HO10 HS8 R10 K10 KR
  go_upto_region 10 with fail
  obtain ⟨wd, hwd⟩ : ∃ wd, w12.alloc (.cells #[.slice A12 n12 c12, .slice A13 n13 c13] 34) = wd := ⟨_, rfl⟩
  have kd : Keep w12 wd := by rw [← hwd]; exact (Keep.refl w12).alloc _ _
  rw [hwd]
  clear hwd
  have HD := Lib.hid kd
  have b9 := (kd.block _ HS.out.1).trans HC9'.out
  have x0 : wd.cell? ⟨w8.heap.size, 0, none⟩ = some (.slice A8 2 c8) := cell_of_row _ _ _ _ _ _ b9
  have x1 : wd.cell? ⟨w8.heap.size, 1, none⟩ = some (.slice A9 1 c9) := cell_of_row _ _ _ _ _ _ b9
  have bx1 : Bytes wd wd.heap.size A8 2 [1, 0] := (HX.out.1.keep kd).bytes
  have bx2 : Bytes wd wd.heap.size A9 1 [5] := (HX.out.2.1.keep kd).bytes
  have HBX := Lib.hid (And.intro bx1 bx2)
  clear kd b9 bx1 bx2
  go_wp2_with fail
  refine (is_any 2 c8 c9 5 A8 A9 [1, 0] _ wd HBX.out.1 HBX.out.2 (strN_eq (xs := [1, 0]) (ys := [1, 0]) rfl)).mono ?_
  rintro e w14 ⟨rfl, k14⟩
  have kd := HD.out.trans k14
  have b11 := (kd.block _ HS.out.2).trans HC11.out
  have x2 : w14.cell? ⟨w10.heap.size, 0, none⟩ = some (.slice A10 2 c10) := cell_of_row _ _ _ _ _ _ b11
  have x3 : w14.cell? ⟨w10.heap.size, 1, none⟩ = some (.slice A11 1 c11) := cell_of_row _ _ _ _ _ _ b11
  have by1 : Bytes w14 w14.heap.size A10 2 [3, 0] := (HX.out.2.2.1.keep kd).bytes
  have by2 : Bytes w14 w14.heap.size A11 1 [15] := (HX.out.2.2.2.keep kd).bytes
  have HBY := Lib.hid (And.intro by1 by2)
  have HD2 := Lib.hid kd
  clear kd b11 by1 by2 k14 HBX x0 x1 HC9' HC11 HX HS HD
  go_wp2_with fail
  refine (is_any 2 c10 c11 15 A10 A11 [3, 0] _ w14 HBY.out.1 HBY.out.2 (strN_eq (xs := [3, 0]) (ys := [3, 0]) rfl)).mono ?_
  rintro e w15 ⟨rfl, k15⟩
  have K15 := Lib.hid (K12.out.trans (HD2.out.trans k15))
  have R15 := Lib.hid (R12.out.keep (HD2.out.trans k15))
  clear k15 HD2 HBY x2 x3 K12 R12
  go_wp2_with fail
  refine (rl_move_in R15.out 2 (by decide)).mono ?_
  rintro e w16 ⟨rfl, F6, r16, f16, t16⟩
  have R16 := Lib.hid r16
  have F6' : Hid (∀ x, F6 x → w.heap.size ≤ x) := fun x hx => by
    rcases f16 x hx with e | e
    · exact F5'.out x e
    · have := K15.out.size; omega
  have K16 := Lib.hid (t16.keep K15.out F5'.out)
  clear r16 f16 t16 R15 F5' K15
  go_wp2_with fail
  obtain ⟨wl17, hwl⟩ : ∃ wl, w16.alloc (.cells #[.int .u8 1, .int .u8 1] 5) = wl := ⟨_, rfl⟩
  have HL17 := Lib.hid (two_lit w16 1 1 (by decide) (by decide) hwl)
  rw [hwl]
  clear hwl
  refine (row_any 2 2 9 _ _ (by decide)).mono ?_
  rintro e w17 ⟨A17, c17, rfl, o17, l17, k17⟩
  have HB17 := Lib.hid (And.intro (HL17.out.1.keep (Nat.le_refl _) k17) (And.intro o17.bytes (And.intro k17.size l17)))
  have HK17 := Lib.hid (HL17.out.2.trans k17)
  clear o17 l17 k17 HL17
  go_wp2_with fail
  refine (rl_take_in (R16.out.keep HK17.out) 4 (by decide) (by decide) _ _ 2 c17 _ _ [1, 1] [9] (Nat.le_refl _) HB17.out.2.2.2 HB17.out.1 HB17.out.2.1 HB17.out.2.2.1 (Nat.le_refl _)).mono ?_
  rw [wk_at.2.2.1, decide_eq_false wk_three.1, wk_three.2]
  rintro e w18 ⟨rfl, F7, r18, f18, t18⟩
  have R18 : Hid (RelR w18 F7 p 2 1 4 2 wkL2) := r18
  have K18 := Lib.hid (t18.keep (K16.out.trans HK17.out) F6'.out)
  clear r18 f18 t18 R16 F6' K16 HK17 HB17
  go_wp2_with fail
  refine (rl_rank R18.out 0 (by decide)).mono ?_
  rw [wk_at.2.2.2]
  rintro e w19 ⟨rfl, rfl⟩
  go_wp2_with fail
  refine (rl_ranks R18.out).mono ?_
  rw [wk_ranks]
  rintro e w20 ⟨A20, n20, c20, rfl, o20, k20⟩
  have HO20 := Lib.hid o20
  have K20 := Lib.hid (K18.out.trans k20)
  clear o20 k20 R18 K18
  go_wp2_with fail
  obtain ⟨wz, hwz⟩ : ∃ wz, w20.alloc (.cells #[.int .u64 4, .int .i64 1] 84) = wz := ⟨_, rfl⟩
  have hz := heap_alloc_new w20 (.cells #[.int .u64 4, .int .i64 1] 84)
  have kz : Keep w20 wz := by rw [← hwz]; exact (Keep.refl w20).alloc _ _
  rw [hwz] at hz ⊢
  clear hwz
  refine (sameranks_any n20 1 c20 1 A20 _ _ _ [(4, 1)] [(4, 1)] wz (HO20.out.ins.keep kz) (rk_one 4 1 hz) (by rw [← HO20.out.length]; decide)).mono ?_
  rintro e w21 ⟨rfl, k21⟩
  have K21 := Lib.hid (K20.out.trans (kz.trans k21))
  clear hz kz k21
  go_wp2_with fail
  go_ret
  exact ⟨rfl, K21.out⟩
end Go.Proofs.YtcjjhblgejkkeaaGreat
