/- The walk of VectorKnown. -/
import Derived.Test.YtkinhhplhkbljaaWakes
namespace Go.Proofs.Ytkinhhplhkbljaa
open Go.RowKit
theorem vLead_unit (n k : Nat) (hk : k < n) : vLead n (vUnit n k) = k := by
  have h : vLeadTo (vUnit n k) n = some k := (vLeadTo_some _ n k).2 ⟨hk, by rw [vUnit, tab_getD, if_pos hk, if_pos rfl]; decide, fun i hi => by rw [vUnit, tab_getD, if_pos (by omega), if_neg (by omega)]⟩
  rw [vLead, h]
theorem unit_big (n k : Nat) (hk : k < n) (hn : n ≤ 70000) (w : World) : ∃ U, vLead n U = k ∧ U.length = n ∧ Calls Try.prog 25 #[.int .i64 n, .int .i64 k] w (NewPair w U 0) :=
  ⟨vUnit n k, vLead_unit n k hk, by rw [vUnit, tab_length], vunit_in n k hk hn w⟩
set_option maxRecDepth 100000 in
set_option maxHeartbeats 4000000 in
theorem known_any (w : World) : Calls Try.prog 9 #[] w fun e w' => e = .returned (.bool true) ∧ Keep w w' := by
  go_enter Try.func9, Try.ntmps9
  go_wp2_with fail
  refine (vaddS_apart 1 0 1 0 3 _ _ _ (by decide)).mono ?_
  rintro e w1 ⟨A1, n1, c1, rfl, _, k1⟩
  have G1 := Lib.hid (Keep.trans ((Keep.refl w).alloc _ _) k1)
  clear k1
  go_wp2_with fail
  refine (vdot_apart 1 2 1 2 _ _ _ (by decide)).mono ?_
  rintro e w2 ⟨rfl, k2⟩
  have G2 := Lib.hid (Keep.trans G1.out (Keep.trans (((Keep.refl w1).alloc _ _).alloc _ _) k2))
  clear k2
  go_wp2_with fail
  refine (vcomb_none 0 0 0 none none _).mono ?_
  rintro e w3 ⟨A3, n3, c3, rfl, _, k3⟩
  have G3 := Lib.hid (Keep.trans G2.out (k3))
  clear k3
  go_wp2_with fail
  refine (vcomb_apart 1 1 0 0 _ _ _ (by decide) (by decide)).mono ?_
  rintro e w4 ⟨A4, n4, c4, rfl, _, k4⟩
  have G4 := Lib.hid (Keep.trans G3.out (Keep.trans (((Keep.refl w3).alloc _ _).alloc _ _) k4))
  clear k4
  go_wp2_with fail
  have l1 := ((Bytes.lit (w := w4) (h := w4.heap.size) rfl 5 1 [1] #[.int .u8 1] rfl rfl (by decide) (by decide)).alloc (by simp) (.cells #[.int .u8 1, .int .u8 2] 5)).mono (B' := w4.heap.size + 1 + 1) (by omega)
  have l2 := Bytes.lit (w := w4.alloc (.cells #[.int .u8 1] 5)) (h := w4.heap.size + 1) (by simp) 5 2 [1, 2] #[.int .u8 1, .int .u8 2] rfl rfl (by decide) (by decide)
  have l3 := (RowsAt.lit (w := (w4.alloc (.cells #[.int .u8 1] 5)).alloc (.cells #[.int .u8 1, .int .u8 2] 5)) (h := w4.heap.size + 1 + 1) (by simp) 22 2 [⟨some ⟨w4.heap.size, 0, none⟩, 1, 1, [1]⟩, ⟨some ⟨w4.heap.size + 1, 0, none⟩, 2, 2, [1, 2]⟩]
    #[.slice (some ⟨w4.heap.size, 0, none⟩) 1 1, .slice (some ⟨w4.heap.size + 1, 0, none⟩) 2 2] rfl rfl (fun r hr => by
      simp only [List.mem_cons, List.not_mem_nil, or_false] at hr
      rcases hr with rfl | rfl
      · exact ⟨l1, (by decide : (1 : Nat) ≤ 140737488351232), (by decide : (1 : Nat) ≤ 1)⟩
      · exact ⟨l2, (by decide : (2 : Nat) ≤ 140737488351232), (by decide : (2 : Nat) ≤ 2)⟩)).alloc (by simp) (.cells #[.int .u8 1, .int .u8 1] 5)
  have l4 := Bytes.lit (w := ((w4.alloc (.cells #[.int .u8 1] 5)).alloc (.cells #[.int .u8 1, .int .u8 2] 5)).alloc (.cells #[.slice (some ⟨w4.heap.size, 0, none⟩) 1 1, .slice (some ⟨w4.heap.size + 1, 0, none⟩) 2 2] 22)) (h := w4.heap.size + 1 + 1 + 1) (by simp) 5 2 [1, 1] #[.int .u8 1, .int .u8 1] rfl rfl (by decide) (by decide)
  refine (vcomb_any _ _ 2 2 2 _ _ _ _ _ l3 l4 (by simp) (by simp) (by decide) (by decide) _ rfl).mono ?_
  have e1 : combErr 1 [⟨some ⟨w4.heap.size, 0, none⟩, 1, 1, [1]⟩, ⟨some ⟨w4.heap.size + 1, 0, none⟩, 2, 2, [1, 2]⟩] = 21 := by rw [combErr, if_neg (by simp)]
  rw [e1]
  rintro e w5 ⟨A5, n5, c5, rfl, _, k5⟩
  have G5 := Lib.hid (Keep.trans G4.out (Keep.trans (((((Keep.refl w4).alloc _ _).alloc _ _).alloc _ _).alloc _ _) k5))
  clear k5 l1 l2 l3 l4 e1
  go_wp2_with fail
  have l3 := (RowsAt.lit (w := w5) (h := w5.heap.size) rfl 22 2 [⟨none, 0, 0, []⟩, ⟨none, 0, 0, []⟩]
    #[.slice none 0 0, .slice none 0 0] rfl rfl (fun r hr => by
      simp only [List.mem_cons, List.not_mem_nil, or_false] at hr
      rcases hr with rfl | rfl
      · exact ⟨Bytes.nil _ _ _, (by decide : (0 : Nat) ≤ 140737488351232), (by decide : (0 : Nat) ≤ 0)⟩
      · exact ⟨Bytes.nil _ _ _, (by decide : (0 : Nat) ≤ 140737488351232), (by decide : (0 : Nat) ≤ 0)⟩)).alloc (by simp) (.cells #[.int .u8 1, .int .u8 1] 5)
  have l4 := Bytes.lit (w := w5.alloc (.cells #[.slice none 0 0, .slice none 0 0] 22)) (h := w5.heap.size + 1) (by simp) 5 2 [1, 1] #[.int .u8 1, .int .u8 1] rfl rfl (by decide) (by decide)
  refine (vcomb_any _ _ 2 2 2 _ _ _ _ _ l3 l4 (by simp) (by simp) (by decide) (by decide) _ rfl).mono ?_
  have e1 : combErr 0 [⟨none, 0, 0, []⟩, ⟨none, 0, 0, []⟩] = 0 := by rw [combErr, if_pos (by simp)]
  have e2 : combOf 0 [⟨none, 0, 0, []⟩, ⟨none, 0, 0, []⟩] [1, 1] = [] := by rw [combOf, if_pos (by simp)]; rfl
  rw [e1, e2]
  rintro e w6 ⟨A6, n6, c6, rfl, o6, k6⟩
  have G6 := Lib.hid (Keep.trans G5.out (Keep.trans (((Keep.refl w5).alloc _ _).alloc _ _) k6))
  obtain rfl : n6 = 0 := by have h := o6.length; exact h.symm
  clear k6 l3 l4 e1 e2 o6
  go_wp2_with fail
  refine (vunit_out 3 3 (by decide) _).mono ?_
  rintro e w7 ⟨A7, n7, c7, rfl, _, k7⟩
  have G7 := Lib.hid (Keep.trans G6.out (k7))
  clear k7
  go_wp2_with fail
  refine (vunit_out (-1) 0 (by decide) _).mono ?_
  rintro e w8 ⟨A8, n8, c8, rfl, _, k8⟩
  have G8 := Lib.hid (Keep.trans G7.out (k8))
  clear k8
  go_wp2_with fail
  refine (vunit_out 70001 0 (by decide) _).mono ?_
  rintro e w9 ⟨A9, n9, c9, rfl, _, k9⟩
  have G9 := Lib.hid (Keep.trans G8.out (k9))
  clear k9
  go_wp2_with fail
  obtain ⟨U, hU, hL, hC⟩ := unit_big 70000 69999 (by decide) (by decide) w9
  have HU := Lib.hid hU
  have HL := Lib.hid hL
  clear hU hL
  refine (hC).mono ?_
  rintro e w10 ⟨A10, n10, c10, rfl, o10, k10⟩
  have G10 := Lib.hid (Keep.trans G9.out (k10))
  obtain rfl : n10 = 70000 := by have h := o10.length; rw [HL.out] at h; exact h.symm
  have O10 := Lib.hid o10
  clear k10 o10 hC
  go_wp2_with fail
  refine (vlead_any _ 70000 _ _ _ _ O10.out.bytes (Nat.le_refl _) (by decide)).mono ?_
  rw [HU.out]
  rintro e w11 ⟨rfl, k11⟩
  have G11 := Lib.hid (Keep.trans G10.out (k11))
  clear k11
  go_wp2_with fail
  refine (vzero_any 0 0 0 none [] _ (Bytes.nil _ _ _) (by simp) (by decide)).mono ?_
  rw [show vLead 0 [] = -1 from rfl]
  rintro e w12 ⟨rfl, k12⟩
  have G12 := Lib.hid (Keep.trans G11.out (k12))
  clear k12
  go_wp2_with fail
  refine (wakes_any _).mono ?_
  rintro e w13 ⟨rfl, k13⟩
  have G13 := Lib.hid (Keep.trans G12.out (k13))
  clear k13
  go_wp2_with fail
  go_ret
  exact ⟨rfl, G13.out⟩
end Go.Proofs.Ytkinhhplhkbljaa
