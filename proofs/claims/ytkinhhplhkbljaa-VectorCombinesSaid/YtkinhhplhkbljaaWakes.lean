/- The chapter's rows come out as told. -/
import Derived.Test.YtkinhhplhkbljaaVcode
namespace Go.Proofs.Ytkinhhplhkbljaa
open Go.RowKit
set_option maxRecDepth 100000 in
set_option maxHeartbeats 1000000 in
theorem wakes_any (w : World) : Calls Try.prog 22 #[] w fun e w' => e = .returned (.bool true) ∧ Keep w w' := by
  go_enter Try.func22, Try.ntmps22
  go_wp2_with fail
  have l1 := (Bytes.lit (w := w) (h := w.heap.size) rfl 5 3 [1, 2, 3] #[.int .u8 1, .int .u8 2, .int .u8 3] rfl rfl (by decide) (by decide)).alloc (by simp) (.cells #[.int .u8 1, .int .u8 1, .int .u8 1] 5)
  have l2 := Bytes.lit (w := w.alloc (.cells #[.int .u8 1, .int .u8 2, .int .u8 3] 5)) (h := w.heap.size + 1) (by simp) 5 3 [1, 1, 1] #[.int .u8 1, .int .u8 1, .int .u8 1] rfl rfl (by decide) (by decide)
  refine (vadd_any _ _ 3 3 3 _ _ _ _ _ l1 l2 (by simp) (by simp) (by decide)).mono ?_
  rw [show vAdd 3 [1, 2, 3] [1, 1, 1] = [0, 3, 2] by decide]
  rintro e w1 ⟨A1, n1, c1, rfl, o1, k1⟩
  have g1 : Keep w w1 := Keep.trans (((Keep.refl w).alloc _ _).alloc _ _) k1
  have O1 := Lib.hid o1
  have G1 := Lib.hid g1
  clear l1 l2 o1 k1 g1
  go_wp2_with fail
  refine (vadd_apart 2 1 2 1 _ _ _ (by decide)).mono ?_
  rintro e w2 ⟨A2, n2, c2, rfl, _, k2⟩
  have G2 := Lib.hid (Keep.trans (((Keep.refl w1).alloc _ _).alloc _ _) k2)
  clear k2
  go_wp2_with fail
  have l1 := (Bytes.lit (w := w2) (h := w2.heap.size) rfl 5 2 [2, 3] #[.int .u8 2, .int .u8 3] rfl rfl (by decide) (by decide)).alloc (by simp) (.cells #[.int .u8 4, .int .u8 1] 5)
  have l2 := Bytes.lit (w := w2.alloc (.cells #[.int .u8 2, .int .u8 3] 5)) (h := w2.heap.size + 1) (by simp) 5 2 [4, 1] #[.int .u8 4, .int .u8 1] rfl rfl (by decide) (by decide)
  refine (vdot_any _ _ 2 2 2 _ _ _ _ _ l1 l2 (by simp) (by simp) (by decide)).mono ?_
  rw [show vDot 2 [2, 3] [4, 1] = 11 by decide]
  rintro e w3 ⟨rfl, k3⟩
  have G3 := Lib.hid (Keep.trans (((Keep.refl w2).alloc _ _).alloc _ _) k3)
  clear l1 l2 k3
  go_wp2_with fail
  refine (vdot_any 0 0 0 0 0 none none [] [] _ (Bytes.nil _ _ _) (Bytes.nil _ _ _) (by simp) (by simp) (by decide)).mono ?_
  rw [show vDot 0 [] [] = 0 from rfl]
  rintro e w4 ⟨rfl, k4⟩
  have G4 := Lib.hid k4
  clear k4
  go_wp2_with fail
  have l1 := ((Bytes.lit (w := w4) (h := w4.heap.size) rfl 5 2 [1, 0] #[.int .u8 1, .int .u8 0] rfl rfl (by decide) (by decide)).alloc (by simp) (.cells #[.int .u8 0, .int .u8 1] 5)).mono (B' := w4.heap.size + 1 + 1) (by omega)
  have l2 := Bytes.lit (w := w4.alloc (.cells #[.int .u8 1, .int .u8 0] 5)) (h := w4.heap.size + 1) (by simp) 5 2 [0, 1] #[.int .u8 0, .int .u8 1] rfl rfl (by decide) (by decide)
  have l3 := (RowsAt.lit (w := (w4.alloc (.cells #[.int .u8 1, .int .u8 0] 5)).alloc (.cells #[.int .u8 0, .int .u8 1] 5)) (h := w4.heap.size + 1 + 1) (by simp) 22 2 [⟨some ⟨w4.heap.size, 0, none⟩, 2, 2, [1, 0]⟩, ⟨some ⟨w4.heap.size + 1, 0, none⟩, 2, 2, [0, 1]⟩]
    #[.slice (some ⟨w4.heap.size, 0, none⟩) 2 2, .slice (some ⟨w4.heap.size + 1, 0, none⟩) 2 2] rfl rfl (fun r hr => by
      simp only [List.mem_cons, List.not_mem_nil, or_false] at hr
      rcases hr with rfl | rfl
      · exact ⟨l1, (by decide : (2 : Nat) ≤ 140737488351232), (by decide : (2 : Nat) ≤ 2)⟩
      · exact ⟨l2, (by decide : (2 : Nat) ≤ 140737488351232), (by decide : (2 : Nat) ≤ 2)⟩)).alloc (by simp) (.cells #[.int .u8 5, .int .u8 7] 5)
  have l4 := Bytes.lit (w := ((w4.alloc (.cells #[.int .u8 1, .int .u8 0] 5)).alloc (.cells #[.int .u8 0, .int .u8 1] 5)).alloc (.cells #[.slice (some ⟨w4.heap.size, 0, none⟩) 2 2, .slice (some ⟨w4.heap.size + 1, 0, none⟩) 2 2] 22)) (h := w4.heap.size + 1 + 1 + 1) (by simp) 5 2 [5, 7] #[.int .u8 5, .int .u8 7] rfl rfl (by decide) (by decide)
  refine (vcomb_any _ _ 2 2 2 _ _ _ _ _ l3 l4 (by simp) (by simp) (by decide) (by decide) _ rfl).mono ?_
  have e1 : combOf 2 [⟨some ⟨w4.heap.size, 0, none⟩, 2, 2, [1, 0]⟩, ⟨some ⟨w4.heap.size + 1, 0, none⟩, 2, 2, [0, 1]⟩] [5, 7] = [5, 7] := by
    rw [combOf, if_pos (by simp)]
    show vComb 2 [[1, 0], [0, 1]] [5, 7] 2 = [5, 7]
    decide
  have e2 : combErr 2 [⟨some ⟨w4.heap.size, 0, none⟩, 2, 2, [1, 0]⟩, ⟨some ⟨w4.heap.size + 1, 0, none⟩, 2, 2, [0, 1]⟩] = 0 := by rw [combErr, if_pos (by simp)]
  rw [e1, e2]
  clear e1 e2
  rintro e w5 ⟨A5, n5, c5, rfl, o5, k5⟩
  have g5 := Keep.trans (((((Keep.refl w4).alloc _ _).alloc _ _).alloc _ _).alloc _ _) k5
  have O5 := Lib.hid o5
  have G5 := Lib.hid (Keep.trans G1.out (Keep.trans G2.out (Keep.trans G3.out (Keep.trans G4.out g5))))
  have b1 := O1.out.bytes.keep (Nat.le_refl _) (Keep.trans G2.out (Keep.trans G3.out (Keep.trans G4.out g5)))
  have s1 := run_str b1 Try.underlying22 Try.underlying5 Try.underlying9 c1
  clear l1 l2 l3 l4 o5 k5 g5 b1
  rw [show strN [0, 3, 2] = ⟨#[0, 3, 2]⟩ from rfl] at s1
  go_wp2_with fail
  have l1 := Bytes.lit (w := w5) (h := w5.heap.size) rfl 5 3 [1, 2, 255] #[.int .u8 1, .int .u8 2, .int .u8 255] rfl rfl (by decide) (by decide)
  refine (vscale_any _ 3 3 2 _ _ _ l1 (by simp) (by decide) (by decide)).mono ?_
  rw [show vScale 3 [1, 2, 255] 2 = [2, 4, 229] by decide]
  rintro e w6 ⟨A6, n6, c6, rfl, o6, k6⟩
  have g6 := Keep.trans ((Keep.refl w5).alloc _ _) k6
  have G6 := Lib.hid (Keep.trans G5.out g6)
  have s2 := run_str o6.bytes Try.underlying22 Try.underlying5 Try.underlying9 c6
  have s3 := run_str (O5.out.bytes.keep (Nat.le_refl _) g6) Try.underlying22 Try.underlying5 Try.underlying9 c5
  rw [show strN [2, 4, 229] = ⟨#[2, 4, 229]⟩ from rfl] at s2
  rw [show strN [5, 7] = ⟨#[5, 7]⟩ from rfl] at s3
  clear s1 l1 o6 k6 g6
  go_wp2_with fail
  have l1 := Bytes.lit (w := w6) (h := w6.heap.size) rfl 5 3 [0, 0, 9] #[.int .u8 0, .int .u8 0, .int .u8 9] rfl rfl (by decide) (by decide)
  refine (vlead_any _ 3 3 _ _ _ l1 (by simp) (by decide)).mono ?_
  rw [show vLead 3 [0, 0, 9] = 2 by decide]
  rintro e w7 ⟨rfl, k7⟩
  have G7 := Lib.hid (Keep.trans G6.out (Keep.trans ((Keep.refl w6).alloc _ _) k7))
  clear s2 s3 l1 k7
  go_wp2_with fail
  have l1 := Bytes.lit (w := w7) (h := w7.heap.size) rfl 5 2 [0, 0] #[.int .u8 0, .int .u8 0] rfl rfl (by decide) (by decide)
  refine (vlead_any _ 2 2 _ _ _ l1 (by simp) (by decide)).mono ?_
  rw [show vLead 2 [0, 0] = -1 by decide]
  rintro e w8 ⟨rfl, k8⟩
  have G8 := Lib.hid (Keep.trans G7.out (Keep.trans ((Keep.refl w7).alloc _ _) k8))
  clear l1 k8
  go_wp2_with fail
  refine (vlead_any 0 0 0 none [] _ (Bytes.nil _ _ _) (by simp) (by decide)).mono ?_
  rw [show vLead 0 [] = -1 from rfl]
  rintro e w9 ⟨rfl, k9⟩
  have G9 := Lib.hid (Keep.trans G8.out k9)
  clear k9
  go_wp2_with fail
  go_ret
  exact ⟨rfl, G9.out⟩
end Go.Proofs.Ytkinhhplhkbljaa
