/- The walk of MatrixInverses. -/
import Derived.Test.YtcmjglmagkjdoaaMsz
namespace Go.Proofs.Ytcmjglmagkjdoaa
open Go.RowKit
set_option linter.unusedVariables false
set_option linter.unusedSimpArgs false
set_option maxRecDepth 100000 in
set_option maxHeartbeats 8000000 in
theorem inverses_any (n1 n2 c1 c2 s0 : Nat) (A1 A2 : Option Addr) (xs ys : List Nat) (w : World) (h1 : Bytes w w.heap.size A1 n1 xs) (h2 : Bytes w w.heap.size A2 n2 ys) (m1 : n1 ≤ 140737488355328) (m2 : n2 ≤ 140737488355328) (b0 : s0 < 256) :
    Calls Try.prog 5 #[.slice A1 n1 c1, .slice A2 n2 c2, .int .u8 (s0 : Int)] w fun e w' => e = .returned (.bool true) ∧ Keep w w' := by
  have H1 := Lib.hid h1
  have H2 := Lib.hid h2
  obtain ⟨q, hq⟩ : ∃ q, s0 % 6 = q := ⟨_, rfl⟩
  obtain ⟨k, hk⟩ : ∃ k, 1 + q = k := ⟨_, rfl⟩
  have d1 : (s0 : Int) % 6 = (q : Int) := by omega
  have d2 : 1 + (q : Int) = (k : Int) := by omega
  have p0 : 1 ≤ k := by omega
  have q0 : k ≤ 6 := by omega
  obtain ⟨X, hX⟩ : ∃ X, shapeN xs k k = X := ⟨_, rfl⟩
  obtain ⟨Y, hY⟩ : ∃ X, shapeN ys k k = X := ⟨_, rfl⟩
  have sX : Hid (Sz k k X) := hX ▸ shape_sz xs k k h1.all
  have sY : Hid (Sz k k Y) := hY ▸ shape_sz ys k k h2.all
  have E0 := Lib.hid (And.intro hX hY)
  obtain ⟨XY, hXY⟩ : ∃ M, prodN X Y k k k = M := ⟨_, rfl⟩
  have sXY : Hid (Sz k k XY) := hXY ▸ prod_sz sX.out k Y
  obtain ⟨I, hI⟩ : ∃ M, idN k k = M := ⟨_, rfl⟩
  have sI : Hid (Sz k k I) := hI ▸ id_sz k
  have hIP := inv_prod sX.out sY.out p0
  rw [hXY] at hIP
  have E1 := Lib.hid (And.intro hXY (And.intro hI hIP))
  obtain ⟨p, hp⟩ : ∃ p, rk X = p := ⟨_, rfl⟩
  have HP := Lib.hid hp
  clear h1 h2 hX hY hXY hI hIP hq hk hp
  go_enter Try.func5, Try.ntmps5
  go_wp2_with fail
  refine (shaped_mat _ n1 c1 k k A1 xs _ (H1.out.keep (Nat.le_refl _) (Keep.refl w)) (Keep.refl w).size m1 (by omega) (by omega)).mono ?_
  rw [E0.out.1]
  rintro e w1 ⟨A19, n19, c19, rfl, mm, kk⟩
  have S1 : Hid (St w w1 [⟨A19, n19, c19, X⟩]) := (St.start w).more mm kk
  clear mm kk
  go_wp2_with fail
  refine (shaped_mat _ n2 c2 k k A2 ys _ (H2.out.keep (Nat.le_refl _) S1.out.keep) S1.out.keep.size m2 (by omega) (by omega)).mono ?_
  rw [E0.out.2]
  rintro e w2 ⟨A29, n29, c29, rfl, mm, kk⟩
  have S2 : Hid (St w w2 [⟨A19, n19, c19, X⟩, ⟨A29, n29, c29, Y⟩]) := S1.out.more mm kk
  clear mm kk
  go_wp2_with fail
  refine (ident_sz (by omega)).mono ?_
  rw [E1.out.2.1]
  rintro e w3 ⟨A3, n3, c3, rfl, mm, kk⟩
  have S3 : Hid (St w w3 [⟨A19, n19, c19, X⟩, ⟨A29, n29, c29, Y⟩, ⟨A3, n3, c3, I⟩]) := S2.out.more mm kk
  clear mm kk S2
  go_wp2_with fail
  by_cases hx : rk X = k
  · by_cases hy : rk Y = k
    · have hU := inv_inv sX.out p0 hx
      obtain ⟨U, hUe⟩ : ∃ M, invV X = M := ⟨_, rfl⟩
      have sU : Hid (Sz k k U) := hUe ▸ (inv_left sX.out p0 hx).1
      have hl := (inv_left sX.out p0 hx).2
      have hr := inv_right sX.out p0 hx
      rw [E1.out.2.1, hUe] at hl hr
      rw [hUe] at hU
      have EX := Lib.hid (And.intro hUe (And.intro hl (And.intro hr hU)))
      have HX := Lib.hid hx
      clear hUe hl hr hU hx
      obtain ⟨V, hVe⟩ : ∃ M, invV Y = M := ⟨_, rfl⟩
      have sV : Hid (Sz k k V) := hVe ▸ (inv_left sY.out p0 hy).1
      have EY := Lib.hid hVe
      have HY := Lib.hid hy
      clear hVe hy
      refine (inv_szm (S3.out.get 0 rfl) sX.out p0 (by omega) HX.out).mono ?_
      rw [EX.out.1]
      rintro e w4 ⟨A4, n4, c4, rfl, mm, kk⟩
      have S4 : Hid (St w w4 [⟨A19, n19, c19, X⟩, ⟨A29, n29, c29, Y⟩, ⟨A3, n3, c3, I⟩, ⟨A4, n4, c4, U⟩]) := S3.out.more mm kk
      clear mm kk S3
      go_wp2_with fail
      refine (rank_szm (S4.out.get 0 rfl) sX.out p0 (by omega) (by omega)).mono ?_
      rw [HX.out]
      rintro e w5 ⟨rfl, kk⟩
      have S5 : Hid (St w w5 [⟨A19, n19, c19, X⟩, ⟨A29, n29, c29, Y⟩, ⟨A3, n3, c3, I⟩, ⟨A4, n4, c4, U⟩]) := S4.out.later kk
      clear kk S4
      go_wp2_with fail
      refine (inv_szm (S5.out.get 1 rfl) sY.out p0 (by omega) HY.out).mono ?_
      rw [EY.out]
      rintro e w6 ⟨A6, n6, c6, rfl, mm, kk⟩
      have S6 : Hid (St w w6 [⟨A19, n19, c19, X⟩, ⟨A29, n29, c29, Y⟩, ⟨A3, n3, c3, I⟩, ⟨A4, n4, c4, U⟩, ⟨A6, n6, c6, V⟩]) := S5.out.more mm kk
      clear mm kk S5
      go_wp2_with fail
      refine (mul_szm (S6.out.get 0 rfl) (S6.out.get 1 rfl) sX.out sY.out p0 p0 (by omega) (by omega) (by omega)).mono ?_
      rw [E1.out.1]
      rintro e w7 ⟨A7, n7, c7, rfl, mm, kk⟩
      have S7 : Hid (St w w7 [⟨A19, n19, c19, X⟩, ⟨A29, n29, c29, Y⟩, ⟨A3, n3, c3, I⟩, ⟨A4, n4, c4, U⟩, ⟨A6, n6, c6, V⟩, ⟨A7, n7, c7, XY⟩]) := S6.out.more mm kk
      clear mm kk S6
      go_wp2_with fail
      obtain ⟨Q, hQ⟩ : ∃ M, invV XY = M := ⟨_, rfl⟩
      have hQ2 : prodN V U k k k = Q := by rw [← hQ, E1.out.2.2.2 HX.out HY.out, EY.out, EX.out.1]
      have sQ : Hid (Sz k k Q) := hQ2 ▸ prod_sz sV.out k U
      have EQ := Lib.hid (And.intro hQ hQ2)
      clear hQ hQ2
      refine (inv_szm (S7.out.get 5 rfl) sXY.out p0 (by omega) (E1.out.2.2.1.2 ⟨HX.out, HY.out⟩)).mono ?_
      rw [EQ.out.1]
      rintro e w8 ⟨A8, n8, c8, rfl, mm, kk⟩
      have S8 : Hid (St w w8 [⟨A19, n19, c19, X⟩, ⟨A29, n29, c29, Y⟩, ⟨A3, n3, c3, I⟩, ⟨A4, n4, c4, U⟩, ⟨A6, n6, c6, V⟩, ⟨A7, n7, c7, XY⟩, ⟨A8, n8, c8, Q⟩]) := S7.out.more mm kk
      clear mm kk S7
      go_wp2_with fail
      refine (mul_szm (S8.out.get 0 rfl) (S8.out.get 3 rfl) sX.out sU.out p0 p0 (by omega) (by omega) (by omega)).mono ?_
      rw [EX.out.2.2.1]
      rintro e w9 ⟨A9, n9, c9, rfl, mm, kk⟩
      have S9 : Hid (St w w9 [⟨A19, n19, c19, X⟩, ⟨A29, n29, c29, Y⟩, ⟨A3, n3, c3, I⟩, ⟨A4, n4, c4, U⟩, ⟨A6, n6, c6, V⟩, ⟨A7, n7, c7, XY⟩, ⟨A8, n8, c8, Q⟩, ⟨A9, n9, c9, I⟩]) := S8.out.more mm kk
      clear mm kk S8
      go_wp2_with fail
      refine (mul_szm (S9.out.get 3 rfl) (S9.out.get 0 rfl) sU.out sX.out p0 p0 (by omega) (by omega) (by omega)).mono ?_
      rw [EX.out.2.1]
      rintro e w10 ⟨A10, n10, c10, rfl, mm, kk⟩
      have S10 : Hid (St w w10 [⟨A19, n19, c19, X⟩, ⟨A29, n29, c29, Y⟩, ⟨A3, n3, c3, I⟩, ⟨A4, n4, c4, U⟩, ⟨A6, n6, c6, V⟩, ⟨A7, n7, c7, XY⟩, ⟨A8, n8, c8, Q⟩, ⟨A9, n9, c9, I⟩, ⟨A10, n10, c10, I⟩]) := S9.out.more mm kk
      clear mm kk S9
      go_wp2_with fail
      refine (inv_szm (S10.out.get 3 rfl) sU.out p0 (by omega) EX.out.2.2.2.1).mono ?_
      rw [EX.out.2.2.2.2]
      rintro e w11 ⟨A11, n11, c11, rfl, mm, kk⟩
      have S11 : Hid (St w w11 [⟨A19, n19, c19, X⟩, ⟨A29, n29, c29, Y⟩, ⟨A3, n3, c3, I⟩, ⟨A4, n4, c4, U⟩, ⟨A6, n6, c6, V⟩, ⟨A7, n7, c7, XY⟩, ⟨A8, n8, c8, Q⟩, ⟨A9, n9, c9, I⟩, ⟨A10, n10, c10, I⟩, ⟨A11, n11, c11, X⟩]) := S10.out.more mm kk
      clear mm kk S10
      go_wp2_with fail
      refine (same_szm (S11.out.get 7 rfl) (S11.out.get 2 rfl) sI.out (by omega)).mono ?_
      rintro e w12 ⟨rfl, kk⟩
      have S12 : Hid (St w w12 [⟨A19, n19, c19, X⟩, ⟨A29, n29, c29, Y⟩, ⟨A3, n3, c3, I⟩, ⟨A4, n4, c4, U⟩, ⟨A6, n6, c6, V⟩, ⟨A7, n7, c7, XY⟩, ⟨A8, n8, c8, Q⟩, ⟨A9, n9, c9, I⟩, ⟨A10, n10, c10, I⟩, ⟨A11, n11, c11, X⟩]) := S11.out.later kk
      clear kk S11
      go_wp2_with fail
      refine (same_szm (S12.out.get 8 rfl) (S12.out.get 2 rfl) sI.out (by omega)).mono ?_
      rintro e w13 ⟨rfl, kk⟩
      have S13 : Hid (St w w13 [⟨A19, n19, c19, X⟩, ⟨A29, n29, c29, Y⟩, ⟨A3, n3, c3, I⟩, ⟨A4, n4, c4, U⟩, ⟨A6, n6, c6, V⟩, ⟨A7, n7, c7, XY⟩, ⟨A8, n8, c8, Q⟩, ⟨A9, n9, c9, I⟩, ⟨A10, n10, c10, I⟩, ⟨A11, n11, c11, X⟩]) := S12.out.later kk
      clear kk S12
      go_wp2_with fail
      refine (same_szm (S13.out.get 9 rfl) (S13.out.get 0 rfl) sX.out (by omega)).mono ?_
      rintro e w14 ⟨rfl, kk⟩
      have S14 : Hid (St w w14 [⟨A19, n19, c19, X⟩, ⟨A29, n29, c29, Y⟩, ⟨A3, n3, c3, I⟩, ⟨A4, n4, c4, U⟩, ⟨A6, n6, c6, V⟩, ⟨A7, n7, c7, XY⟩, ⟨A8, n8, c8, Q⟩, ⟨A9, n9, c9, I⟩, ⟨A10, n10, c10, I⟩, ⟨A11, n11, c11, X⟩]) := S13.out.later kk
      clear kk S13
      go_wp2_with fail
      refine (mul_szm (S14.out.get 4 rfl) (S14.out.get 3 rfl) sV.out sU.out p0 p0 (by omega) (by omega) (by omega)).mono ?_
      rw [EQ.out.2]
      rintro e w15 ⟨A15, n15, c15, rfl, mm, kk⟩
      have S15 : Hid (St w w15 [⟨A19, n19, c19, X⟩, ⟨A29, n29, c29, Y⟩, ⟨A3, n3, c3, I⟩, ⟨A4, n4, c4, U⟩, ⟨A6, n6, c6, V⟩, ⟨A7, n7, c7, XY⟩, ⟨A8, n8, c8, Q⟩, ⟨A9, n9, c9, I⟩, ⟨A10, n10, c10, I⟩, ⟨A11, n11, c11, X⟩, ⟨A15, n15, c15, Q⟩]) := S14.out.more mm kk
      clear mm kk S14
      go_wp2_with fail
      refine (same_szm (S15.out.get 10 rfl) (S15.out.get 6 rfl) sQ.out (by omega)).mono ?_
      rintro e w16 ⟨rfl, kk⟩
      have S16 : Hid (St w w16 [⟨A19, n19, c19, X⟩, ⟨A29, n29, c29, Y⟩, ⟨A3, n3, c3, I⟩, ⟨A4, n4, c4, U⟩, ⟨A6, n6, c6, V⟩, ⟨A7, n7, c7, XY⟩, ⟨A8, n8, c8, Q⟩, ⟨A9, n9, c9, I⟩, ⟨A10, n10, c10, I⟩, ⟨A11, n11, c11, X⟩, ⟨A15, n15, c15, Q⟩]) := S15.out.later kk
      clear kk S15
      go_wp2_with fail
      refine (wakes_any _).mono ?_
      rintro e w17 ⟨rfl, kk⟩
      have S17 : Hid (St w w17 [⟨A19, n19, c19, X⟩, ⟨A29, n29, c29, Y⟩, ⟨A3, n3, c3, I⟩, ⟨A4, n4, c4, U⟩, ⟨A6, n6, c6, V⟩, ⟨A7, n7, c7, XY⟩, ⟨A8, n8, c8, Q⟩, ⟨A9, n9, c9, I⟩, ⟨A10, n10, c10, I⟩, ⟨A11, n11, c11, X⟩, ⟨A15, n15, c15, Q⟩]) := S16.out.later kk
      clear kk S16
      go_wp2_with fail
      go_ret
      exact ⟨rfl, S17.out.keep⟩
    · have hU := inv_inv sX.out p0 hx
      obtain ⟨U, hUe⟩ : ∃ M, invV X = M := ⟨_, rfl⟩
      have sU : Hid (Sz k k U) := hUe ▸ (inv_left sX.out p0 hx).1
      have hl := (inv_left sX.out p0 hx).2
      have hr := inv_right sX.out p0 hx
      rw [E1.out.2.1, hUe] at hl hr
      rw [hUe] at hU
      have EX := Lib.hid (And.intro hUe (And.intro hl (And.intro hr hU)))
      have HX := Lib.hid hx
      clear hUe hl hr hU hx
      have HY := Lib.hid hy
      clear hy
      refine (inv_szm (S3.out.get 0 rfl) sX.out p0 (by omega) HX.out).mono ?_
      rw [EX.out.1]
      rintro e w4 ⟨A4, n4, c4, rfl, mm, kk⟩
      have S4 : Hid (St w w4 [⟨A19, n19, c19, X⟩, ⟨A29, n29, c29, Y⟩, ⟨A3, n3, c3, I⟩, ⟨A4, n4, c4, U⟩]) := S3.out.more mm kk
      clear mm kk S3
      go_wp2_with fail
      refine (rank_szm (S4.out.get 0 rfl) sX.out p0 (by omega) (by omega)).mono ?_
      rw [HX.out]
      rintro e w5 ⟨rfl, kk⟩
      have S5 : Hid (St w w5 [⟨A19, n19, c19, X⟩, ⟨A29, n29, c29, Y⟩, ⟨A3, n3, c3, I⟩, ⟨A4, n4, c4, U⟩]) := S4.out.later kk
      clear kk S4
      go_wp2_with fail
      refine (inv_szn (S5.out.get 1 rfl) sY.out p0 (by omega) HY.out).mono ?_
      rintro e w6 ⟨A6, n6, c6, rfl, mm, kk⟩
      have S6 : Hid (St w w6 [⟨A19, n19, c19, X⟩, ⟨A29, n29, c29, Y⟩, ⟨A3, n3, c3, I⟩, ⟨A4, n4, c4, U⟩, ⟨A6, n6, c6, []⟩]) := S5.out.more mm kk
      clear mm kk S5
      go_wp2_with fail
      refine (mul_szm (S6.out.get 0 rfl) (S6.out.get 1 rfl) sX.out sY.out p0 p0 (by omega) (by omega) (by omega)).mono ?_
      rw [E1.out.1]
      rintro e w7 ⟨A7, n7, c7, rfl, mm, kk⟩
      have S7 : Hid (St w w7 [⟨A19, n19, c19, X⟩, ⟨A29, n29, c29, Y⟩, ⟨A3, n3, c3, I⟩, ⟨A4, n4, c4, U⟩, ⟨A6, n6, c6, []⟩, ⟨A7, n7, c7, XY⟩]) := S6.out.more mm kk
      clear mm kk S6
      go_wp2_with fail
      refine (inv_szn (S7.out.get 5 rfl) sXY.out p0 (by omega) (fun e => HY.out (E1.out.2.2.1.1 e).2)).mono ?_
      rintro e w8 ⟨A8, n8, c8, rfl, mm, kk⟩
      have S8 : Hid (St w w8 [⟨A19, n19, c19, X⟩, ⟨A29, n29, c29, Y⟩, ⟨A3, n3, c3, I⟩, ⟨A4, n4, c4, U⟩, ⟨A6, n6, c6, []⟩, ⟨A7, n7, c7, XY⟩, ⟨A8, n8, c8, []⟩]) := S7.out.more mm kk
      clear mm kk S7
      go_wp2_with fail
      refine (mul_szm (S8.out.get 0 rfl) (S8.out.get 3 rfl) sX.out sU.out p0 p0 (by omega) (by omega) (by omega)).mono ?_
      rw [EX.out.2.2.1]
      rintro e w9 ⟨A9, n9, c9, rfl, mm, kk⟩
      have S9 : Hid (St w w9 [⟨A19, n19, c19, X⟩, ⟨A29, n29, c29, Y⟩, ⟨A3, n3, c3, I⟩, ⟨A4, n4, c4, U⟩, ⟨A6, n6, c6, []⟩, ⟨A7, n7, c7, XY⟩, ⟨A8, n8, c8, []⟩, ⟨A9, n9, c9, I⟩]) := S8.out.more mm kk
      clear mm kk S8
      go_wp2_with fail
      refine (mul_szm (S9.out.get 3 rfl) (S9.out.get 0 rfl) sU.out sX.out p0 p0 (by omega) (by omega) (by omega)).mono ?_
      rw [EX.out.2.1]
      rintro e w10 ⟨A10, n10, c10, rfl, mm, kk⟩
      have S10 : Hid (St w w10 [⟨A19, n19, c19, X⟩, ⟨A29, n29, c29, Y⟩, ⟨A3, n3, c3, I⟩, ⟨A4, n4, c4, U⟩, ⟨A6, n6, c6, []⟩, ⟨A7, n7, c7, XY⟩, ⟨A8, n8, c8, []⟩, ⟨A9, n9, c9, I⟩, ⟨A10, n10, c10, I⟩]) := S9.out.more mm kk
      clear mm kk S9
      go_wp2_with fail
      refine (inv_szm (S10.out.get 3 rfl) sU.out p0 (by omega) EX.out.2.2.2.1).mono ?_
      rw [EX.out.2.2.2.2]
      rintro e w11 ⟨A11, n11, c11, rfl, mm, kk⟩
      have S11 : Hid (St w w11 [⟨A19, n19, c19, X⟩, ⟨A29, n29, c29, Y⟩, ⟨A3, n3, c3, I⟩, ⟨A4, n4, c4, U⟩, ⟨A6, n6, c6, []⟩, ⟨A7, n7, c7, XY⟩, ⟨A8, n8, c8, []⟩, ⟨A9, n9, c9, I⟩, ⟨A10, n10, c10, I⟩, ⟨A11, n11, c11, X⟩]) := S10.out.more mm kk
      clear mm kk S10
      go_wp2_with fail
      refine (same_szm (S11.out.get 7 rfl) (S11.out.get 2 rfl) sI.out (by omega)).mono ?_
      rintro e w12 ⟨rfl, kk⟩
      have S12 : Hid (St w w12 [⟨A19, n19, c19, X⟩, ⟨A29, n29, c29, Y⟩, ⟨A3, n3, c3, I⟩, ⟨A4, n4, c4, U⟩, ⟨A6, n6, c6, []⟩, ⟨A7, n7, c7, XY⟩, ⟨A8, n8, c8, []⟩, ⟨A9, n9, c9, I⟩, ⟨A10, n10, c10, I⟩, ⟨A11, n11, c11, X⟩]) := S11.out.later kk
      clear kk S11
      go_wp2_with fail
      refine (same_szm (S12.out.get 8 rfl) (S12.out.get 2 rfl) sI.out (by omega)).mono ?_
      rintro e w13 ⟨rfl, kk⟩
      have S13 : Hid (St w w13 [⟨A19, n19, c19, X⟩, ⟨A29, n29, c29, Y⟩, ⟨A3, n3, c3, I⟩, ⟨A4, n4, c4, U⟩, ⟨A6, n6, c6, []⟩, ⟨A7, n7, c7, XY⟩, ⟨A8, n8, c8, []⟩, ⟨A9, n9, c9, I⟩, ⟨A10, n10, c10, I⟩, ⟨A11, n11, c11, X⟩]) := S12.out.later kk
      clear kk S12
      go_wp2_with fail
      refine (same_szm (S13.out.get 9 rfl) (S13.out.get 0 rfl) sX.out (by omega)).mono ?_
      rintro e w14 ⟨rfl, kk⟩
      have S14 : Hid (St w w14 [⟨A19, n19, c19, X⟩, ⟨A29, n29, c29, Y⟩, ⟨A3, n3, c3, I⟩, ⟨A4, n4, c4, U⟩, ⟨A6, n6, c6, []⟩, ⟨A7, n7, c7, XY⟩, ⟨A8, n8, c8, []⟩, ⟨A9, n9, c9, I⟩, ⟨A10, n10, c10, I⟩, ⟨A11, n11, c11, X⟩]) := S13.out.later kk
      clear kk S13
      go_wp2_with fail
      refine (wakes_any _).mono ?_
      rintro e w15 ⟨rfl, kk⟩
      have S15 : Hid (St w w15 [⟨A19, n19, c19, X⟩, ⟨A29, n29, c29, Y⟩, ⟨A3, n3, c3, I⟩, ⟨A4, n4, c4, U⟩, ⟨A6, n6, c6, []⟩, ⟨A7, n7, c7, XY⟩, ⟨A8, n8, c8, []⟩, ⟨A9, n9, c9, I⟩, ⟨A10, n10, c10, I⟩, ⟨A11, n11, c11, X⟩]) := S14.out.later kk
      clear kk S14
      go_wp2_with fail
      go_ret
      exact ⟨rfl, S15.out.keep⟩
  · by_cases hy : rk Y = k
    · have zp : ((p : Int) == (k : Int)) = false := beq_eq_false_iff_ne.2 (by have := HP.out; omega)
      have HX := Lib.hid hx
      clear hx
      obtain ⟨V, hVe⟩ : ∃ M, invV Y = M := ⟨_, rfl⟩
      have sV : Hid (Sz k k V) := hVe ▸ (inv_left sY.out p0 hy).1
      have EY := Lib.hid hVe
      have HY := Lib.hid hy
      clear hVe hy
      refine (inv_szn (S3.out.get 0 rfl) sX.out p0 (by omega) HX.out).mono ?_
      rintro e w4 ⟨A4, n4, c4, rfl, mm, kk⟩
      have S4 : Hid (St w w4 [⟨A19, n19, c19, X⟩, ⟨A29, n29, c29, Y⟩, ⟨A3, n3, c3, I⟩, ⟨A4, n4, c4, []⟩]) := S3.out.more mm kk
      clear mm kk S3
      go_wp2_with fail
      refine (rank_szm (S4.out.get 0 rfl) sX.out p0 (by omega) (by omega)).mono ?_
      rw [HP.out]
      rintro e w5 ⟨rfl, kk⟩
      have S5 : Hid (St w w5 [⟨A19, n19, c19, X⟩, ⟨A29, n29, c29, Y⟩, ⟨A3, n3, c3, I⟩, ⟨A4, n4, c4, []⟩]) := S4.out.later kk
      clear kk S4
      go_wp2_with fail
      refine (inv_szm (S5.out.get 1 rfl) sY.out p0 (by omega) HY.out).mono ?_
      rw [EY.out]
      rintro e w6 ⟨A6, n6, c6, rfl, mm, kk⟩
      have S6 : Hid (St w w6 [⟨A19, n19, c19, X⟩, ⟨A29, n29, c29, Y⟩, ⟨A3, n3, c3, I⟩, ⟨A4, n4, c4, []⟩, ⟨A6, n6, c6, V⟩]) := S5.out.more mm kk
      clear mm kk S5
      go_wp2_with fail
      refine (mul_szm (S6.out.get 0 rfl) (S6.out.get 1 rfl) sX.out sY.out p0 p0 (by omega) (by omega) (by omega)).mono ?_
      rw [E1.out.1]
      rintro e w7 ⟨A7, n7, c7, rfl, mm, kk⟩
      have S7 : Hid (St w w7 [⟨A19, n19, c19, X⟩, ⟨A29, n29, c29, Y⟩, ⟨A3, n3, c3, I⟩, ⟨A4, n4, c4, []⟩, ⟨A6, n6, c6, V⟩, ⟨A7, n7, c7, XY⟩]) := S6.out.more mm kk
      clear mm kk S6
      go_wp2_with fail
      refine (inv_szn (S7.out.get 5 rfl) sXY.out p0 (by omega) (fun e => HX.out (E1.out.2.2.1.1 e).1)).mono ?_
      rintro e w8 ⟨A8, n8, c8, rfl, mm, kk⟩
      have S8 : Hid (St w w8 [⟨A19, n19, c19, X⟩, ⟨A29, n29, c29, Y⟩, ⟨A3, n3, c3, I⟩, ⟨A4, n4, c4, []⟩, ⟨A6, n6, c6, V⟩, ⟨A7, n7, c7, XY⟩, ⟨A8, n8, c8, []⟩]) := S7.out.more mm kk
      clear mm kk S7
      go_wp2_with fail
      refine (wakes_any _).mono ?_
      rintro e w9 ⟨rfl, kk⟩
      have S9 : Hid (St w w9 [⟨A19, n19, c19, X⟩, ⟨A29, n29, c29, Y⟩, ⟨A3, n3, c3, I⟩, ⟨A4, n4, c4, []⟩, ⟨A6, n6, c6, V⟩, ⟨A7, n7, c7, XY⟩, ⟨A8, n8, c8, []⟩]) := S8.out.later kk
      clear kk S8
      go_wp2_with fail
      go_ret
      exact ⟨rfl, S9.out.keep⟩
    · have zp : ((p : Int) == (k : Int)) = false := beq_eq_false_iff_ne.2 (by have := HP.out; omega)
      have HX := Lib.hid hx
      clear hx
      have HY := Lib.hid hy
      clear hy
      refine (inv_szn (S3.out.get 0 rfl) sX.out p0 (by omega) HX.out).mono ?_
      rintro e w4 ⟨A4, n4, c4, rfl, mm, kk⟩
      have S4 : Hid (St w w4 [⟨A19, n19, c19, X⟩, ⟨A29, n29, c29, Y⟩, ⟨A3, n3, c3, I⟩, ⟨A4, n4, c4, []⟩]) := S3.out.more mm kk
      clear mm kk S3
      go_wp2_with fail
      refine (rank_szm (S4.out.get 0 rfl) sX.out p0 (by omega) (by omega)).mono ?_
      rw [HP.out]
      rintro e w5 ⟨rfl, kk⟩
      have S5 : Hid (St w w5 [⟨A19, n19, c19, X⟩, ⟨A29, n29, c29, Y⟩, ⟨A3, n3, c3, I⟩, ⟨A4, n4, c4, []⟩]) := S4.out.later kk
      clear kk S4
      go_wp2_with fail
      refine (inv_szn (S5.out.get 1 rfl) sY.out p0 (by omega) HY.out).mono ?_
      rintro e w6 ⟨A6, n6, c6, rfl, mm, kk⟩
      have S6 : Hid (St w w6 [⟨A19, n19, c19, X⟩, ⟨A29, n29, c29, Y⟩, ⟨A3, n3, c3, I⟩, ⟨A4, n4, c4, []⟩, ⟨A6, n6, c6, []⟩]) := S5.out.more mm kk
      clear mm kk S5
      go_wp2_with fail
      refine (mul_szm (S6.out.get 0 rfl) (S6.out.get 1 rfl) sX.out sY.out p0 p0 (by omega) (by omega) (by omega)).mono ?_
      rw [E1.out.1]
      rintro e w7 ⟨A7, n7, c7, rfl, mm, kk⟩
      have S7 : Hid (St w w7 [⟨A19, n19, c19, X⟩, ⟨A29, n29, c29, Y⟩, ⟨A3, n3, c3, I⟩, ⟨A4, n4, c4, []⟩, ⟨A6, n6, c6, []⟩, ⟨A7, n7, c7, XY⟩]) := S6.out.more mm kk
      clear mm kk S6
      go_wp2_with fail
      refine (inv_szn (S7.out.get 5 rfl) sXY.out p0 (by omega) (fun e => HX.out (E1.out.2.2.1.1 e).1)).mono ?_
      rintro e w8 ⟨A8, n8, c8, rfl, mm, kk⟩
      have S8 : Hid (St w w8 [⟨A19, n19, c19, X⟩, ⟨A29, n29, c29, Y⟩, ⟨A3, n3, c3, I⟩, ⟨A4, n4, c4, []⟩, ⟨A6, n6, c6, []⟩, ⟨A7, n7, c7, XY⟩, ⟨A8, n8, c8, []⟩]) := S7.out.more mm kk
      clear mm kk S7
      go_wp2_with fail
      refine (wakes_any _).mono ?_
      rintro e w9 ⟨rfl, kk⟩
      have S9 : Hid (St w w9 [⟨A19, n19, c19, X⟩, ⟨A29, n29, c29, Y⟩, ⟨A3, n3, c3, I⟩, ⟨A4, n4, c4, []⟩, ⟨A6, n6, c6, []⟩, ⟨A7, n7, c7, XY⟩, ⟨A8, n8, c8, []⟩]) := S8.out.later kk
      clear kk S8
      go_wp2_with fail
      go_ret
      exact ⟨rfl, S9.out.keep⟩
end Go.Proofs.Ytcmjglmagkjdoaa
