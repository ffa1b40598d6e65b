/- The chapter's rows: wakes. -/
import Derived.Test.YtcmjglmagkjdoaaMlit
namespace Go.Proofs.Ytcmjglmagkjdoaa
open Go.RowKit
set_option linter.unusedVariables false
set_option linter.unusedSimpArgs false
theorem k_mul : mulV [[1, 2], [3, 4]] (idV 2) = [[1, 2], [3, 4]] ∧ mulE [[1, 2], [3, 4]] (idV 2) = 0 ∧ idE 2 = 0 := by decide +kernel
theorem k_red : reduceN [[0, 2, 4], [0, 1, 2], [3, 0, 0]] = [[1, 0, 0], [0, 1, 2]] ∧ sizeE [[0, 2, 4], [0, 1, 2], [3, 0, 0]] = 0 := by decide +kernel
theorem k_inv : invV [[0, 1], [1, 0]] = [[0, 1], [1, 0]] ∧ invE [[0, 1], [1, 0]] = 0 ∧ invE [[1, 1], [1, 1]] = 24 ∧ invE [[1, 2]] = 21 := by decide +kernel
theorem k_size : sizeE [[1], [1, 2]] = 21 ∧ sizeR [] = 0 ∧ sizeC [] = 0 ∧ sizeE [] = 0 ∧ sizeC [[1, 2], [3, 4]] = 2 ∧ sizeC (idV 2) = 2 ∧ sizeC [[0, 2, 4], [0, 1, 2], [3, 0, 0]] = 3 ∧ sizeC [[0, 1], [1, 0]] = 2 ∧ sizeC [[1, 1], [1, 1]] = 2 ∧ sizeC [[1, 2]] = 2 ∧ (idV 2).length = 2 := by decide +kernel
set_option maxRecDepth 100000 in
set_option maxHeartbeats 4000000 in
theorem wakes_any (w : World) : Calls Try.prog 28 #[] w fun e w' => e = .returned (.bool true) ∧ Keep w w' := by
  go_enter Try.func28, Try.ntmps28
  go_wp2_with fail
  refine (ident_mat 2).mono ?_
  rintro e w1 ⟨A1, n1, c1, rfl, m1, k1⟩
  have S1 : Hid (St w w1 [⟨A1, n1, c1, idV 2⟩]) := (St.start w).more m1 k1
  have N1 : Hid (n1 = 2) := m1.len.symm.trans k_size.2.2.2.2.2.2.2.2.2.2
  rw [k_mul.2.2]
  clear m1 k1
  go_wp2_with fail
  refine (mul_mat (lit2 _ _ 2 2 [1, 2] [3, 4] _ _ _ rfl rfl (by decide) rfl rfl (by decide) rfl) ((S1.out.get 0 rfl).keep ((((Keep.refl w1).obj _).obj _).obj _)) (by omega) (by rw [N1.out]; omega) (by rw [k_size.2.2.2.2.1]; omega) (by rw [k_size.2.2.2.2.2.1]; omega)).mono ?_
  rw [k_mul.1, k_mul.2.1]
  rintro e w2 ⟨A2, n2, c2, rfl, m2, k2⟩
  have S2 : Hid (St w w2 [⟨A1, n1, c1, idV 2⟩, ⟨A2, n2, c2, [[1, 2], [3, 4]]⟩]) := (S1.out.later ((((Keep.refl w1).obj _).obj _).obj _)).more m2 k2
  clear m2 k2
  go_wp2_with fail
  refine (reduce_mat (lit3 _ _ 3 3 3 [0, 2, 4] [0, 1, 2] [3, 0, 0] _ _ _ _ rfl rfl (by decide) rfl rfl (by decide) rfl rfl (by decide) rfl) (by omega) (by rw [k_size.2.2.2.2.2.2.1]; omega)).mono ?_
  rw [k_red.1, k_red.2]
  rintro e w3 ⟨A3, n3, c3, rfl, m3, k3⟩
  have S3 : Hid (St w w3 [⟨A1, n1, c1, idV 2⟩, ⟨A2, n2, c2, [[1, 2], [3, 4]]⟩, ⟨A3, n3, c3, [[1, 0, 0], [0, 1, 2]]⟩]) := (S2.out.later (((((Keep.refl w2).obj _).obj _).obj _).obj _)).more m3 k3
  clear m3 k3
  go_wp2_with fail
  have mS := (lit2 (w := w3) 5 26 2 2 [0, 1] [1, 0] _ _ _ rfl rfl (by decide) rfl rfl (by decide) rfl)
  have S4 : Hid (St w _ [⟨A1, n1, c1, idV 2⟩, ⟨A2, n2, c2, [[1, 2], [3, 4]]⟩, ⟨A3, n3, c3, [[1, 0, 0], [0, 1, 2]]⟩, ⟨some ⟨w3.heap.size + 1 + 1, 0, none⟩, 2, 2, [[0, 1], [1, 0]]⟩]) := S3.out.more (x := ⟨some ⟨w3.heap.size + 1 + 1, 0, none⟩, 2, 2, [[0, 1], [1, 0]]⟩) mS ((((Keep.refl w3).obj _).obj _).obj _)
  obtain ⟨b, hb⟩ : ∃ b, w3.heap.size + 1 + 1 = b := ⟨_, rfl⟩
  rw [hb] at S4
  try rw [hb]
  clear mS
  refine (inv_mat (S4.out.get 3 rfl) (by omega) (by rw [k_size.2.2.2.2.2.2.2.1]; omega)).mono ?_
  rw [k_inv.1, k_inv.2.1]
  rintro e w5 ⟨A5, n5, c5, rfl, m5, k5⟩
  have S5 : Hid (St w w5 [⟨A1, n1, c1, idV 2⟩, ⟨A2, n2, c2, [[1, 2], [3, 4]]⟩, ⟨A3, n3, c3, [[1, 0, 0], [0, 1, 2]]⟩, ⟨some ⟨b, 0, none⟩, 2, 2, [[0, 1], [1, 0]]⟩, ⟨A5, n5, c5, [[0, 1], [1, 0]]⟩]) := S4.out.more m5 k5
  have N2 : Hid (n2 = 2 ∧ n3 = 2 ∧ n5 = 2) := ⟨(S5.out.get 1 rfl).len.symm, (S5.out.get 2 rfl).len.symm, (S5.out.get 4 rfl).len.symm⟩
  clear m5 k5 hb S1 S2 S3 S4
  go_wp2_with fail
  refine (inv_mat (lit2 _ _ 2 2 [1, 1] [1, 1] _ _ _ rfl rfl (by decide) rfl rfl (by decide) rfl) (by omega) (by rw [k_size.2.2.2.2.2.2.2.2.1]; omega)).mono ?_
  rw [k_inv.2.2.1]
  rintro e w6 ⟨A6, n6, c6, rfl, m6, k6⟩
  have S6 := Lib.hid ((S5.out.later ((((Keep.refl w5).obj _).obj _).obj _)).later k6)
  clear m6 k6 S5
  go_wp2_with fail
  refine (inv_mat (lit1 _ _ 2 [1, 2] _ _ rfl rfl (by decide) rfl) (by omega) (by rw [k_size.2.2.2.2.2.2.2.2.2.1]; omega)).mono ?_
  rw [k_inv.2.2.2]
  rintro e w7 ⟨A7, n7, c7, rfl, m7, k7⟩
  have S7 := Lib.hid ((S6.out.later (((Keep.refl w6).obj _).obj _)).later k7)
  clear m7 k7 S6
  go_wp2_with fail
  refine (size_mat (lit2 _ _ 1 2 [1] [1, 2] _ _ _ rfl rfl (by decide) rfl rfl (by decide) rfl) (by omega)).mono ?_
  rw [k_size.1]
  rintro e w8 ⟨rfl, k8⟩
  have S8 := Lib.hid ((S7.out.later ((((Keep.refl w7).obj _).obj _).obj _)).later k8)
  clear k8 S7
  go_wp2_with fail
  refine (size_mat (mat_none _) (by omega)).mono ?_
  rw [k_size.2.1, k_size.2.2.1, k_size.2.2.2.1]
  rintro e w9 ⟨rfl, k9⟩
  have S9 := Lib.hid (S8.out.later k9)
  clear k9 S8
  go_wp2_with fail
  refine (same_yes ((S9.out.get 1 rfl).keep ((((Keep.refl w9).obj _).obj _).obj _)) (lit2 _ _ 2 2 [1, 2] [3, 4] _ _ _ rfl rfl (by decide) rfl rfl (by decide) rfl) (by rw [N2.out.1]; omega) rfl).mono ?_
  rintro e wa ⟨rfl, ka⟩
  have Sa := Lib.hid ((S9.out.later ((((Keep.refl w9).obj _).obj _).obj _)).later ka)
  clear ka S9
  go_wp2_with fail
  refine (same_yes ((Sa.out.get 2 rfl).keep ((((Keep.refl wa).obj _).obj _).obj _)) (lit2 _ _ 3 3 [1, 0, 0] [0, 1, 2] _ _ _ rfl rfl (by decide) rfl rfl (by decide) rfl) (by rw [N2.out.2.1]; omega) rfl).mono ?_
  rintro e wb ⟨rfl, kb⟩
  have Sb := Lib.hid ((Sa.out.later ((((Keep.refl wa).obj _).obj _).obj _)).later kb)
  clear kb Sa
  go_wp2_with fail
  refine (same_yes (Sb.out.get 4 rfl) (Sb.out.get 3 rfl) (by rw [N2.out.2.2]; omega) rfl).mono ?_
  rintro e wc ⟨rfl, kc⟩
  have Sc := Lib.hid (Sb.out.later kc)
  clear kc Sb
  go_wp2_with fail
  go_ret
  exact ⟨rfl, Sc.out.keep⟩
end Go.Proofs.Ytcmjglmagkjdoaa
