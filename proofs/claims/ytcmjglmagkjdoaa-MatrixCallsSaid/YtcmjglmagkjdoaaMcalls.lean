/- The walk of MatrixCalls. -/
import Derived.Test.YtcmjglmagkjdoaaMcalls0
import Derived.Deep.DeepCutAuto
namespace Go.Proofs.Ytcmjglmagkjdoaa
open Go.RowKit
set_option linter.unusedVariables false
set_option linter.unusedSimpArgs false
theorem cut_mat (n c : Nat) (A : Option Addr) (w : World) (M : List (List Nat)) (h : Mat w ⟨A, n, c, M⟩) (hn : n ≤ 140737488355328) :
    Calls Try.prog 10 #[.slice A n c] w fun e w' => ∃ A' n' c', e = .returned (.slice A' n' c') ∧ Mat w' ⟨A', n', c', cutN M⟩ ∧ Keep w w' := by
  obtain ⟨rs, e1, rfl, e3⟩ := h
  refine (cut_any n c A _ rs w e1 (fun _ e => e) hn).mono ?_
  rintro e w' ⟨A', n', c', rfl, rs', h1, h2, h3, h4⟩
  exact ⟨A', n', c', rfl, Mat.of_owned (rs := rs') ⟨h1, h2, h3, h4⟩, h4⟩
set_option maxRecDepth 100000 in
set_option maxHeartbeats 8000000 in
theorem calls_any (n1 n2 c1 c2 : Nat) (A1 A2 : Option Addr) (L1 L2 : List (List Nat)) (k : Int) (w : World) (h1 : Mat w ⟨A1, n1, c1, L1⟩) (h2 : Mat w ⟨A2, n2, c2, L2⟩) (a1 : ∀ x ∈ L1, AllB x) (a2 : ∀ x ∈ L2, AllB x) (m1 : n1 ≤ 140737488355328) (m2 : n2 ≤ 140737488355328) :
    Calls Try.prog 3 #[.slice A1 n1 c1, .slice A2 n2 c2, .int .i64 k] w fun e w' => e = .returned (.bool true) ∧ Keep w w' := by
  have H1 := Lib.hid h1
  have H2 := Lib.hid h2
  obtain ⟨X, hX⟩ : ∃ X, cutN L1 = X := ⟨_, rfl⟩
  obtain ⟨Y, hY⟩ : ∃ X, cutN L2 = X := ⟨_, rfl⟩
  have sX : Hid (Small 12 X) := hX ▸ cutN_small a1
  have sY : Hid (Small 12 Y) := hY ▸ cutN_small a2
  have cX : cutN X = X := by rw [← hX]; exact cutN_cutN L1
  have cY : cutN Y = Y := by rw [← hY]; exact cutN_cutN L2
  have E0 := Lib.hid (And.intro hX (And.intro hY (And.intro cX cY)))
  clear h1 h2 hX hY cX cY a1 a2
  go_enter Try.func3, Try.ntmps3
  go_wp2_with fail
  refine (cut_mat _ _ _ _ _ H1.out m1).mono ?_
  rw [E0.out.1]
  rintro e w3 ⟨A3, n3, c3, rfl, mm, kk⟩
  have S3 : Hid (St w w3 [⟨A3, n3, c3, X⟩]) := (St.start w).more mm kk
  clear mm kk
  go_wp2_with fail
  refine (cut_mat _ _ _ _ _ (H2.out.keep S3.out.keep) m2).mono ?_
  rw [E0.out.2.1]
  rintro e w4 ⟨A4, n4, c4, rfl, mm, kk⟩
  have S4 : Hid (St w w4 [⟨A3, n3, c3, X⟩, ⟨A4, n4, c4, Y⟩]) := S3.out.more mm kk
  clear mm kk
  have N4 : Hid (n3 ≤ 12 ∧ n4 ≤ 12) := ⟨by have h : X.length = n3 := (S4.out.get 0 rfl).len; have := sX.out.1; omega, by have h : Y.length = n4 := (S4.out.get 1 rfl).len; have := sY.out.1; omega⟩
  clear S3
  go_wp2_with fail
  refine (cut_mat _ _ _ _ _ (S4.out.get 0 rfl) (by have := N4.out; omega)).mono ?_
  rw [E0.out.2.2.1]
  rintro e w5 ⟨A5, n5, c5, rfl, mm, kk⟩
  have S5 : Hid (St w w5 [⟨A3, n3, c3, X⟩, ⟨A4, n4, c4, Y⟩, ⟨A5, n5, c5, X⟩]) := S4.out.more mm kk
  clear mm kk
  clear S4
  go_wp2_with fail
  refine (cut_mat _ _ _ _ _ (S5.out.get 1 rfl) (by have := N4.out; omega)).mono ?_
  rw [E0.out.2.2.2]
  rintro e w6 ⟨A6, n6, c6, rfl, mm, kk⟩
  have S6 : Hid (St w w6 [⟨A3, n3, c3, X⟩, ⟨A4, n4, c4, Y⟩, ⟨A5, n5, c5, X⟩, ⟨A6, n6, c6, Y⟩]) := S5.out.more mm kk
  clear mm kk
  have N6 : Hid (n3 ≤ 12 ∧ n4 ≤ 12 ∧ n5 ≤ 12 ∧ n6 ≤ 12) := ⟨N4.out.1, N4.out.2, by have h : X.length = n5 := (S6.out.get 2 rfl).len; have := sX.out.1; omega, by have h : Y.length = n6 := (S6.out.get 3 rfl).len; have := sY.out.1; omega⟩
  clear S5 N4
  go_upto_region 5 with fail
  have hR0 : Right w6 (w6.alloc (.cells #[.bool true] 4)) w6.heap.size := ⟨Nat.le_refl _, heap_alloc_new w6 _, (Keep.refl w6).obj _⟩
  obtain ⟨g, hg⟩ : ∃ g, w6.heap.size = g := ⟨_, rfl⟩
  rw [hg] at hR0
  simp only [hg]
  have R0 := Lib.hid hR0
  clear hR0 hg
  generalize w6.alloc (.cells #[.bool true] 4) = v0 at *
  go_wp2_with fail
  refine (cident_new k).mono ?_
  rintro e u0 ⟨B0, l0, d0, rfl, rs0, ho0⟩
  have O0 := Lib.hid ho0
  clear ho0
  go_wp2_with fail
  refine (rident_mat k).mono ?_
  rintro e t0 ⟨C0, j0, f0, rfl, mm, kk⟩
  have M0 := Lib.hid mm
  have K0 := Lib.hid kk
  clear mm kk
  go_wp2_with fail
  refine (check_new R0.out O0.out K0.out M0.out (small_id k)).mono ?_
  rintro e v1 ⟨rfl, hr⟩
  have R1 := Lib.hid hr
  clear hr O0 M0 K0 R0
  go_wp2_with fail
  refine (ctr_new ((S6.out.get 2 rfl).keep R1.out.2.2) sX.out).mono ?_
  rintro e u1 ⟨B1, l1, d1, rfl, rs1, ho1⟩
  have O1 := Lib.hid ho1
  clear ho1
  go_wp2_with fail
  refine (rtr_mat ((S6.out.get 0 rfl).keep (R1.out.2.2.trans O1.out.2.2.2)) sX.out).mono ?_
  rintro e t1 ⟨C1, j1, f1, rfl, mm, kk⟩
  have M1 := Lib.hid mm
  have K1 := Lib.hid kk
  clear mm kk
  go_wp2_with fail
  refine (check_new R1.out O1.out K1.out M1.out (small_tr sX.out)).mono ?_
  rintro e v2 ⟨rfl, hr⟩
  have R2 := Lib.hid hr
  clear hr O1 M1 K1 R1
  go_wp2_with fail
  refine (cmul_new ((S6.out.get 2 rfl).keep R2.out.2.2) ((S6.out.get 3 rfl).keep R2.out.2.2) sX.out sY.out).mono ?_
  rintro e u2 ⟨B2, l2, d2, rfl, rs2, ho2⟩
  have O2 := Lib.hid ho2
  clear ho2
  go_wp2_with fail
  refine (rmul_mat ((S6.out.get 0 rfl).keep (R2.out.2.2.trans O2.out.2.2.2)) ((S6.out.get 1 rfl).keep (R2.out.2.2.trans O2.out.2.2.2)) sX.out sY.out).mono ?_
  rintro e t2 ⟨C2, j2, f2, rfl, mm, kk⟩
  have M2 := Lib.hid mm
  have K2 := Lib.hid kk
  clear mm kk
  go_wp2_with fail
  refine (check_new R2.out O2.out K2.out M2.out (small_mul sX.out sY.out)).mono ?_
  rintro e v3 ⟨rfl, hr⟩
  have R3 := Lib.hid hr
  clear hr O2 M2 K2 R2
  go_wp2_with fail
  refine (creduce_new ((S6.out.get 2 rfl).keep R3.out.2.2) sX.out).mono ?_
  rintro e u3 ⟨B3, l3, d3, rfl, rs3, ho3⟩
  have O3 := Lib.hid ho3
  clear ho3
  go_wp2_with fail
  refine (rreduce_mat ((S6.out.get 0 rfl).keep (R3.out.2.2.trans O3.out.2.2.2)) sX.out).mono ?_
  rintro e t3 ⟨C3, j3, f3, rfl, mm, kk⟩
  have M3 := Lib.hid mm
  have K3 := Lib.hid kk
  clear mm kk
  go_wp2_with fail
  refine (check_new R3.out O3.out K3.out M3.out (small_red sX.out)).mono ?_
  rintro e v4 ⟨rfl, hr⟩
  have R4 := Lib.hid hr
  clear hr O3 M3 K3 R3
  go_wp2_with fail
  refine (cinv_new ((S6.out.get 2 rfl).keep R4.out.2.2) sX.out).mono ?_
  rintro e u4 ⟨B4, l4, d4, rfl, rs4, ho4⟩
  have O4 := Lib.hid ho4
  clear ho4
  go_wp2_with fail
  refine (rinv_mat ((S6.out.get 0 rfl).keep (R4.out.2.2.trans O4.out.2.2.2)) sX.out).mono ?_
  rintro e t4 ⟨C4, j4, f4, rfl, mm, kk⟩
  have M4 := Lib.hid mm
  have K4 := Lib.hid kk
  clear mm kk
  go_wp2_with fail
  refine (check_new R4.out O4.out K4.out M4.out (small_inv sX.out)).mono ?_
  rintro e v5 ⟨rfl, hr⟩
  have R5 := Lib.hid hr
  clear hr O4 M4 K4 R4
  go_wp2_with fail
  obtain ⟨d, hd⟩ : ∃ d, decide (X = Y) = d := ⟨_, rfl⟩
  have HD := Lib.hid hd
  have zz : (d == d) = true := beq_iff_eq.2 rfl
  clear hd
  refine (size_mat ((S6.out.get 2 rfl).keep R5.out.2.2) (by have := N6.out; omega)).mono ?_
  rintro e z5 ⟨rfl, kk⟩
  have R6 := Lib.hid (R5.out.later kk)
  clear kk R5
  go_wp2_with fail
  refine (rsize_mat ((S6.out.get 0 rfl).keep R6.out.2.2) sX.out).mono ?_
  rintro e z6 ⟨rfl, kk⟩
  have R7 := Lib.hid (R6.out.later kk)
  clear kk R6
  go_wp2_with fail
  refine (rank_mat ((S6.out.get 2 rfl).keep R7.out.2.2) (by have := N6.out; omega) (by have := sX.out.sizeC_le; omega)).mono ?_
  rintro e z7 ⟨rfl, kk⟩
  have R8 := Lib.hid (R7.out.later kk)
  clear kk R7
  go_wp2_with fail
  refine (rrank_mat ((S6.out.get 0 rfl).keep R8.out.2.2) sX.out).mono ?_
  rintro e z8 ⟨rfl, kk⟩
  have R9 := Lib.hid (R8.out.later kk)
  clear kk R8
  obtain ⟨cR, _, _⟩ := R9.out.cell
  go_wp2_with fail
  refine (same_mat ((S6.out.get 2 rfl).keep R9.out.2.2) ((S6.out.get 3 rfl).keep R9.out.2.2) (by have := N6.out; omega)).mono ?_
  rw [HD.out]
  rintro e z9 ⟨rfl, kk⟩
  have R10 := Lib.hid (R9.out.later kk)
  clear kk R9
  go_wp2_with fail
  refine (rsame_mat ((S6.out.get 0 rfl).keep R10.out.2.2) ((S6.out.get 1 rfl).keep R10.out.2.2) (by have := N6.out; omega)).mono ?_
  rw [HD.out]
  rintro e z10 ⟨rfl, kk⟩
  have R11 := Lib.hid (R10.out.later kk)
  clear kk R10
  go_wp2_with fail
  refine (rsame_mat ((S6.out.get 2 rfl).keep R11.out.2.2) ((S6.out.get 0 rfl).keep R11.out.2.2) (by have := N6.out; omega)).mono ?_
  rw [decide_eq_true rfl]
  rintro e z11 ⟨rfl, kk⟩
  have R12 := Lib.hid (R11.out.later kk)
  clear kk R11
  go_wp2_with fail
  refine (rsame_mat ((S6.out.get 3 rfl).keep R12.out.2.2) ((S6.out.get 1 rfl).keep R12.out.2.2) (by have := N6.out; omega)).mono ?_
  rw [decide_eq_true rfl]
  rintro e z12 ⟨rfl, kk⟩
  have R13 := Lib.hid (R12.out.later kk)
  clear kk R12
  go_wp2_with fail
  refine (wakes_any _).mono ?_
  rintro e z20 ⟨rfl, kk⟩
  have KE := Lib.hid (S6.out.keep.trans (R13.out.later kk).2.2)
  clear kk R13
  go_wp2_with fail
  go_ret
  exact ⟨rfl, KE.out⟩
end Go.Proofs.Ytcmjglmagkjdoaa
