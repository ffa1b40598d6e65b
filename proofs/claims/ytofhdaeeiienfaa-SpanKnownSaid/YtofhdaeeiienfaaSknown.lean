/- The walk of SpanKnown: the chapter's rows, none, what does not fit. -/
import Derived.Test.YtofhdaeeiienfaaSlaw
namespace Go.Proofs.Ytofhdaeeiienfaa
open Go.RowKit Lin
set_option linter.unusedVariables false
set_option linter.unusedSimpArgs false
theorem kk1 : sizeC ([[1]] ++ [[1, 2]]) ≤ 400 := by decide +kernel
theorem kk2 : conV [[1]] [[1, 2]] = false := by decide +kernel
theorem kk3 : sizeE ([[1]] ++ [[1, 2]]) = 21 := by decide +kernel
theorem kk4 : sizeC ([[1]] ++ [[1, 2]]) ≤ 400 := by decide +kernel
theorem kk5 : conV [[1]] [[1, 2]] = false := by decide +kernel
theorem kk6 : sizeE ([[1]] ++ [[1, 2]]) = 21 := by decide +kernel
theorem kk7 : sizeC ([[1], [1, 2]] ++ []) ≤ 400 := by decide +kernel
theorem kk8 : sizeC ([] ++ [[1], [1, 2]]) ≤ 400 := by decide +kernel
theorem kk9 : (conV [[1], [1, 2]] [] && conV [] [[1], [1, 2]]) = false := by decide +kernel
theorem kk10 : sizeE ([[1], [1, 2]] ++ []) = 21 := by decide +kernel
theorem kk11 : sizeC ([] ++ [[1], []]) ≤ 400 := by decide +kernel
theorem kk12 : reduceN ([] ++ [[1], []]) = [] := by decide +kernel
theorem kk13 : sizeE ([] ++ [[1], []]) = 21 := by decide +kernel
theorem kk14 : sizeC ([[1]] ++ [[1, 2]]) ≤ 400 := by decide +kernel
theorem kk15 : meetV [[1]] [[1, 2]] = [] := by decide +kernel
theorem kk16 : sizeE ([[1]] ++ [[1, 2]]) = 21 := by decide +kernel
theorem kk17 : sizeC ([[1]] ++ [[1, 2]]) ≤ 400 := by decide +kernel
theorem kk18 : witN [[1]] [[1, 2]] = [] := by decide +kernel
theorem kk19 : witB [[1]] [[1, 2]] = false := by decide +kernel
theorem kk20 : sizeE ([[1]] ++ [[1, 2]]) = 21 := by decide +kernel
theorem kk21 : sizeC ([] ++ [[0, 0]]) ≤ 400 := by decide +kernel
theorem kk22 : sizeC ([[0, 0]] ++ []) ≤ 400 := by decide +kernel
theorem kk23 : (conV [] [[0, 0]] && conV [[0, 0]] []) = true := by decide +kernel
theorem kk24 : sizeE ([] ++ [[0, 0]]) = 0 := by decide +kernel
theorem kk25 : sizeC ([] ++ [[1, 2]]) ≤ 400 := by decide +kernel
theorem kk26 : meetV [] [[1, 2]] = [] := by decide +kernel
theorem kk27 : sizeE ([] ++ [[1, 2]]) = 0 := by decide +kernel
theorem kk28 : sizeC ([] ++ []) ≤ 400 := by decide +kernel
theorem kk29 : witN [] [] = [] := by decide +kernel
theorem kk30 : witB [] [] = false := by decide +kernel
theorem kk31 : sizeE ([] ++ []) = 0 := by decide +kernel
set_option maxRecDepth 100000 in
set_option maxHeartbeats 4000000 in
theorem known_any (w : World) : Calls Try.prog 8 #[] w fun e w' => e = .returned (.bool true) ∧ Keep w w' := by
  go_enter Try.func8, Try.ntmps8
  go_wp2_with fail
  obtain ⟨l1, hl1⟩ : ∃ wl, (((w.alloc (.cells #[.int .u8 1] 5)).alloc (.cells #[.slice (some ⟨w.heap.size, 0, none⟩) 1 1] 23)).alloc (.cells #[.int .u8 1, .int .u8 2] 5)) = wl := ⟨_, rfl⟩
  have HL := Lib.hid (lits_has w 1 2 [1] [1, 2] _ _ _ rfl rfl (by decide) rfl rfl rfl (by decide) hl1)
  rw [hl1]
  clear hl1
  refine (has_mat HL.out.1 HL.out.2.1 (by omega) kk1).mono ?_
  rw [kk2, kk3]
  rintro e w1 ⟨rfl, k1⟩
  have K1 := Lib.hid ((Keep.trans HL.out.2.2 k1))
  clear k1 HL
  go_wp2_with fail
  obtain ⟨l2, hl2⟩ : ∃ wl, ((((w1.alloc (.cells #[.int .u8 1] 5)).alloc (.cells #[.slice (some ⟨w1.heap.size, 0, none⟩) 1 1] 23)).alloc (.cells #[.int .u8 1, .int .u8 2] 5)).alloc (.cells #[.slice (some ⟨w1.heap.size + 1 + 1, 0, none⟩) 2 2] 23)) = wl := ⟨_, rfl⟩
  have HL := Lib.hid (lits_11 w1 1 2 [1] [1, 2] _ _ _ _ rfl rfl (by decide) rfl rfl rfl (by decide) rfl hl2)
  rw [hl2]
  clear hl2
  refine (contains_mat HL.out.1 HL.out.2.1 (by omega) (by omega) kk4).mono ?_
  rw [kk5, kk6]
  rintro e w2 ⟨rfl, k2⟩
  have K2 := Lib.hid (K1.out.trans (Keep.trans HL.out.2.2 k2))
  clear k2 HL K1
  go_wp2_with fail
  obtain ⟨l3, hl3⟩ : ∃ wl, (((w2.alloc (.cells #[.int .u8 1] 5)).alloc (.cells #[.int .u8 1, .int .u8 2] 5)).alloc (.cells #[.slice (some ⟨w2.heap.size, 0, none⟩) 1 1, .slice (some ⟨w2.heap.size + 1, 0, none⟩) 2 2] 23)) = wl := ⟨_, rfl⟩
  have HL := Lib.hid (lits_2 w2 1 2 [1] [1, 2] _ _ _ rfl rfl (by decide) rfl rfl (by decide) rfl hl3)
  rw [hl3]
  clear hl3
  refine (same_span HL.out.1 (mat_none _) (by omega) (by omega) kk7 kk8).mono ?_
  rw [kk9, kk10]
  rintro e w3 ⟨rfl, k3⟩
  have K3 := Lib.hid (K2.out.trans (Keep.trans HL.out.2 k3))
  clear k3 HL K2
  go_wp2_with fail
  obtain ⟨l4, hl4⟩ : ∃ wl, (((w3.alloc (.cells #[.int .u8 1] 5)).alloc (.cells #[] 5)).alloc (.cells #[.slice (some ⟨w3.heap.size, 0, none⟩) 1 1, .slice (some ⟨w3.heap.size + 1, 0, none⟩) 0 0] 23)) = wl := ⟨_, rfl⟩
  have HL := Lib.hid (lits_2 w3 1 0 [1] [] _ _ _ rfl rfl (by decide) rfl rfl (by decide) rfl hl4)
  rw [hl4]
  clear hl4
  refine (sum_mat (mat_none _) HL.out.1 (by omega) (by omega) kk11).mono ?_
  rw [kk12, kk13]
  rintro e w4 ⟨A4, n4, c4, rfl, m4, k4⟩
  have hn4 := m4.len
  have hn4 : 0 = n4 := hn4
  subst hn4
  clear m4
  have K4 := Lib.hid (K3.out.trans (Keep.trans HL.out.2 k4))
  clear k4 HL K3
  go_wp2_with fail
  obtain ⟨l5, hl5⟩ : ∃ wl, ((((w4.alloc (.cells #[.int .u8 1] 5)).alloc (.cells #[.slice (some ⟨w4.heap.size, 0, none⟩) 1 1] 23)).alloc (.cells #[.int .u8 1, .int .u8 2] 5)).alloc (.cells #[.slice (some ⟨w4.heap.size + 1 + 1, 0, none⟩) 2 2] 23)) = wl := ⟨_, rfl⟩
  have HL := Lib.hid (lits_11 w4 1 2 [1] [1, 2] _ _ _ _ rfl rfl (by decide) rfl rfl rfl (by decide) rfl hl5)
  rw [hl5]
  clear hl5
  refine (meet_mat HL.out.1 HL.out.2.1 (by omega) (by omega) kk14).mono ?_
  rw [kk15, kk16]
  rintro e w5 ⟨A5, n5, c5, rfl, m5, k5⟩
  have hn5 := m5.len
  have hn5 : 0 = n5 := hn5
  subst hn5
  clear m5
  have K5 := Lib.hid (K4.out.trans (Keep.trans HL.out.2.2 k5))
  clear k5 HL K4
  go_wp2_with fail
  obtain ⟨l6, hl6⟩ : ∃ wl, ((((w5.alloc (.cells #[.int .u8 1] 5)).alloc (.cells #[.slice (some ⟨w5.heap.size, 0, none⟩) 1 1] 23)).alloc (.cells #[.int .u8 1, .int .u8 2] 5)).alloc (.cells #[.slice (some ⟨w5.heap.size + 1 + 1, 0, none⟩) 2 2] 23)) = wl := ⟨_, rfl⟩
  have HL := Lib.hid (lits_11 w5 1 2 [1] [1, 2] _ _ _ _ rfl rfl (by decide) rfl rfl rfl (by decide) rfl hl6)
  rw [hl6]
  clear hl6
  refine (witness_mat HL.out.1 HL.out.2.1 (by omega) (by omega) kk17).mono ?_
  unfold NewWit
  rw [kk18, kk19, kk20]
  rintro e w6 ⟨A6, n6, c6, rfl, o6, k6⟩
  clear o6
  have K6 := Lib.hid (K5.out.trans (Keep.trans HL.out.2.2 k6))
  clear k6 HL K5
  go_wp2_with fail
  obtain ⟨l7, hl7⟩ : ∃ wl, ((w6.alloc (.cells #[.int .u8 0, .int .u8 0] 5)).alloc (.cells #[.slice (some ⟨w6.heap.size, 0, none⟩) 2 2] 23)) = wl := ⟨_, rfl⟩
  have HL := Lib.hid (lits_1 w6 2 [0, 0] _ _ rfl rfl (by decide) rfl hl7)
  rw [hl7]
  clear hl7
  refine (same_span (mat_none _) HL.out.1 (by omega) (by omega) kk21 kk22).mono ?_
  rw [kk23, kk24]
  rintro e w7 ⟨rfl, k7⟩
  have K7 := Lib.hid (K6.out.trans (Keep.trans HL.out.2 k7))
  clear k7 HL K6
  go_wp2_with fail
  obtain ⟨l8, hl8⟩ : ∃ wl, ((w7.alloc (.cells #[.int .u8 1, .int .u8 2] 5)).alloc (.cells #[.slice (some ⟨w7.heap.size, 0, none⟩) 2 2] 23)) = wl := ⟨_, rfl⟩
  have HL := Lib.hid (lits_1 w7 2 [1, 2] _ _ rfl rfl (by decide) rfl hl8)
  rw [hl8]
  clear hl8
  refine (meet_mat (mat_none _) HL.out.1 (by omega) (by omega) kk25).mono ?_
  rw [kk26, kk27]
  rintro e w8 ⟨A8, n8, c8, rfl, m8, k8⟩
  have hn8 := m8.len
  have hn8 : 0 = n8 := hn8
  subst hn8
  clear m8
  have K8 := Lib.hid (K7.out.trans (Keep.trans HL.out.2 k8))
  clear k8 HL K7
  go_wp2_with fail
  refine (witness_mat (mat_none _) (mat_none _) (by omega) (by omega) kk28).mono ?_
  unfold NewWit
  rw [kk29, kk30, kk31]
  rintro e w9 ⟨A9, n9, c9, rfl, o9, k9⟩
  clear o9
  have K9 := Lib.hid (K8.out.trans (Keep.trans (Keep.refl w8) k9))
  clear k9 K8
  go_wp2_with fail
  refine (wakes_any _).mono ?_
  rintro e wz ⟨rfl, kz⟩
  have KZ := Lib.hid (K9.out.trans kz)
  clear kz
  go_wp2_with fail
  go_ret
  exact ⟨rfl, KZ.out⟩
end Go.Proofs.Ytofhdaeeiienfaa
