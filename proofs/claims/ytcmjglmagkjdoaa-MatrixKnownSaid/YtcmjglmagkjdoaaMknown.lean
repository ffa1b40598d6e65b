/- The walk of MatrixKnown. -/
import Derived.Test.YtcmjglmagkjdoaaMlay
namespace Go.Proofs.Ytcmjglmagkjdoaa
open Go.RowKit
set_option linter.unusedVariables false
set_option linter.unusedSimpArgs false
theorem kn_id : idV 0 = [] ∧ idE 0 = 0 ∧ idE 256 = 1 ∧ idE (-1) = 1 ∧ (idV 255).length = 255 ∧ idE 255 = 0 := by decide +kernel
theorem kn_tr : trV [[], []] = [] ∧ sizeE [[], []] = 0 ∧ sizeC [[], []] = 0 := by decide +kernel
theorem kn_mul : mulV [[], []] [] = [[], []] ∧ mulE [[], []] [] = 0 ∧ mulE [[1]] [] = 21 ∧ sizeC [[1]] = 1 ∧ sizeC [] = 0 := by decide +kernel
theorem kn_red : reduceN [[0], [0]] = [] ∧ sizeE [[0], [0]] = 0 ∧ sizeC [[0], [0]] = 1 ∧ sizeE [[1], []] = 21 ∧ sizeC [[1], []] = 0 := by decide +kernel
theorem kn_inv : invV [] = [] ∧ invE [] = 0 := by decide +kernel
set_option maxRecDepth 100000 in
set_option maxHeartbeats 8000000 in
theorem known_any (w : World) : Calls Try.prog 9 #[] w fun e w' => e = .returned (.bool true) ∧ Keep w w' := by
  go_enter Try.func9, Try.ntmps9
  go_wp2_with fail
  refine (ident_mat 0).mono ?_
  rw [kn_id.1, kn_id.2.1]
  rintro e w1 ⟨A1, n1, c1, rfl, m1, k1⟩
  obtain rfl : 0 = n1 := m1.len
  have K1 := Lib.hid k1
  clear m1 k1
  go_wp2_with fail
  refine (ident_mat 256).mono ?_
  rw [kn_id.2.2.1]
  rintro e w2 ⟨A2, n2, c2, rfl, m2, k2⟩
  have K2 := Lib.hid (K1.out.trans k2)
  clear m2 k2 K1
  go_wp2_with fail
  refine (ident_mat (-1)).mono ?_
  rw [kn_id.2.2.2.1]
  rintro e w3 ⟨A3, n3, c3, rfl, m3, k3⟩
  have K3 := Lib.hid (K2.out.trans k3)
  clear m3 k3 K2
  go_wp2_with fail
  refine (ident_mat 255).mono ?_
  rw [kn_id.2.2.2.2.2]
  rintro e w4 ⟨A4, n4, c4, rfl, m4, k4⟩
  obtain rfl : 255 = n4 := kn_id.2.2.2.2.1.symm.trans m4.len
  have K4 := Lib.hid (K3.out.trans k4)
  clear m4 k4 K3
  go_wp2_with fail
  refine (tr_mat (lit2 _ _ 0 0 [] [] _ _ _ rfl rfl (by decide) rfl rfl (by decide) rfl) (by omega) (by rw [kn_tr.2.2]; omega)).mono ?_
  rw [kn_tr.1, kn_tr.2.1]
  rintro e w5 ⟨A5, n5, c5, rfl, m5, k5⟩
  obtain rfl : 0 = n5 := m5.len
  have K5 := Lib.hid (K4.out.trans ((((Keep.refl w4).obj _).obj _).obj _ |>.trans k5))
  clear m5 k5 K4
  go_wp2_with fail
  refine (mul_mat (lit2 _ _ 0 0 [] [] _ _ _ rfl rfl (by decide) rfl rfl (by decide) rfl) (mat_none _) (by omega) (by omega) (by rw [kn_tr.2.2]; omega) (by rw [kn_mul.2.2.2.2]; omega)).mono ?_
  rw [kn_mul.1, kn_mul.2.1]
  rintro e w6 ⟨A6, n6, c6, rfl, m6, k6⟩
  obtain rfl : 2 = n6 := m6.len
  have S6 : Hid (St w w6 [⟨A6, 2, c6, [[], []]⟩]) := ((St.start w).later (K5.out.trans (((((Keep.refl w5).obj _).obj _).obj _).trans k6))).more m6 (Keep.refl _)
  clear m6 k6 K5
  go_wp2_with fail
  refine (mul_mat (lit1 _ _ 1 [1] _ _ rfl rfl (by decide) rfl) (mat_none _) (by omega) (by omega) (by rw [kn_mul.2.2.2.1]; omega) (by rw [kn_mul.2.2.2.2]; omega)).mono ?_
  rw [kn_mul.2.2.1]
  rintro e w7 ⟨A7, n7, c7, rfl, m7, k7⟩
  have S7 := Lib.hid ((S6.out.later (((Keep.refl w6).obj _).obj _)).later k7)
  clear m7 k7 S6
  go_wp2_with fail
  refine (reduce_mat (lit2 _ _ 1 1 [0] [0] _ _ _ rfl rfl (by decide) rfl rfl (by decide) rfl) (by omega) (by rw [kn_red.2.2.1]; omega)).mono ?_
  rw [kn_red.1, kn_red.2.1]
  rintro e w8 ⟨A8, n8, c8, rfl, m8, k8⟩
  obtain rfl : 0 = n8 := m8.len
  have S8 := Lib.hid ((S7.out.later ((((Keep.refl w7).obj _).obj _).obj _)).later k8)
  clear m8 k8 S7
  go_wp2_with fail
  refine (inv_mat (mat_none _) (by omega) (by rw [kn_mul.2.2.2.2]; omega)).mono ?_
  rw [kn_inv.1, kn_inv.2]
  rintro e w9 ⟨A9, n9, c9, rfl, m9, k9⟩
  obtain rfl : 0 = n9 := m9.len
  have S9 := Lib.hid (S8.out.later k9)
  clear m9 k9 S8
  go_wp2_with fail
  have hlit : Mat ((w9.alloc (.cells #[.int .u8 1] 5)).alloc (.cells #[.slice (some ⟨w9.heap.size, 0, none⟩) 1 1, .slice none 0 0] 26)) ⟨some ⟨w9.heap.size + 1, 0, none⟩, 2, 2, [[1], []]⟩ :=
    lit_mat (size_obj _ _) 26 2 [⟨some ⟨w9.heap.size, 0, none⟩, 1, 1, [1]⟩, ⟨none, 0, 0, []⟩] _ (fun r hr => by
      simp only [List.mem_cons, List.not_mem_nil, or_false] at hr
      rcases hr with rfl | rfl
      · exact lit_row rfl 5 1 [1] _ rfl rfl (by decide)
      · exact LiesIn.nothing _ _) rfl rfl _ rfl
  refine (reduce_mat hlit (by omega) (by rw [kn_red.2.2.2.2]; omega)).mono ?_
  rw [kn_red.2.2.2.1]
  rintro e wA ⟨AA, nA, cA, rfl, mA, kA⟩
  have SA := Lib.hid ((S9.out.later (((Keep.refl w9).obj _).obj _)).later kA)
  have sz : Sz 2 0 [[], []] := ⟨rfl, fun x hx => by simp at hx; subst hx; exact ⟨rfl, by decide⟩⟩
  obtain ⟨b, off, Ay, cy, rfl, hb, hc, _, _, _⟩ := (SA.out.get 0 rfl).row_at (i := 0) sz (by omega)
  rw [Nat.add_zero] at hc
  clear mA kA S9 hlit sz
  go_wp2_with fail
  refine (wakes_any _).mono ?_
  rintro e wB ⟨rfl, kB⟩
  have KB := Lib.hid (SA.out.keep.trans kB)
  clear kB SA
  go_wp2_with fail
  go_ret
  exact ⟨rfl, KB.out⟩
end Go.Proofs.Ytcmjglmagkjdoaa
