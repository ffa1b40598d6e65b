/- The chapter's examples of layer 3 come out as told. -/
import Derived.Test.YtpmildbgmmiaeaaWcode
namespace Go.Proofs.Ytpmildbgmmiaeaa
open Go.RowKit
theorem grown_keep {w w' : World} {g : Nat} (h : w.grownBy w' (some g)) (W : World) (hk : Keep W w) (hg : W.heap.size ≤ g) : Keep W w' := Keep.grown hk h (fun k hk' => by injection hk' with e; omega)
set_option maxRecDepth 100000 in
set_option maxHeartbeats 4000000 in
theorem awake_any (w : World) : Calls Try.prog 13 #[] w fun e w' => e = .returned (.bool true) ∧ Keep w w' := by
  go_enter Try.func13, Try.ntmps13
  go_wp2_with fail
  refine (wnum_any 0 0 0 258 3 none [] _ (Bytes.nil _ _ _) (by simp) (by decide) (by decide)).mono ?_
  rw [show numOf [] 258 3 = [0, 1, 2] by decide, show numErr 258 3 = 0 by decide]
  rintro e w1 ⟨A1, n1, c1, rfl, o1, k1⟩
  have O1 := Lib.hid o1
  have G1 := Lib.hid k1
  clear o1 k1
  go_wp2_with fail
  refine (wnum_any 0 0 0 256 1 none [] _ (Bytes.nil _ _ _) (by simp) (by decide) (by decide)).mono ?_
  rw [show numErr 256 1 = 3 by decide]
  rintro e w2 ⟨A2, n2, c2, rfl, _, k2⟩
  have G2 := Lib.hid (Keep.trans G1.out k2)
  have H2 := Lib.hid k2
  clear k2
  go_wp2_with fail
  have l1 := Bytes.lit (w := w2) (h := w2.heap.size) rfl 5 3 [1, 2, 3] #[.int .u8 1, .int .u8 2, .int .u8 3] rfl rfl (by decide) (by decide)
  refine (wnew_any _ 3 3 _ _ _ l1 (by simp) (by decide)).mono ?_
  rintro e w3 ⟨g, F3, rfl, r3, f3, k3⟩
  have K3 := Lib.hid (Keep.trans ((Keep.refl w2).alloc _ _) k3)
  have hg : w2.heap.size ≤ g := by have := f3 g r3.at_; simp at this; omega
  have R3 := Lib.hid r3
  clear l1 r3 k3 f3
  go_wp2_with fail
  refine (wread_any F3 g _ 2 _ R3.out).mono ?_
  rw [show readVal [1, 2, 3] 2 = 258 by decide, show readErr [1, 2, 3] 2 = 0 by decide, show readLeft [1, 2, 3] 2 = [3] by decide]
  rintro e w4 ⟨rfl, ⟨F4, r4, _⟩, k4⟩
  have R4 := Lib.hid r4
  have K4 := Lib.hid (grown_keep k4 w2 K3.out hg)
  clear r4 k4
  go_wp2_with fail
  refine (wtake_any F4 g _ 2 _ R4.out).mono ?_
  rw [show takeErr [3] 2 = 4 by decide, show takeLeft [3] 2 = [3] by decide]
  rintro e w5 ⟨A5, n5, c5, rfl, _, ⟨F5, r5, _, _⟩, k5⟩
  have R5 := Lib.hid r5
  have K5 := Lib.hid (grown_keep k5 w2 K4.out hg)
  clear r5 k5
  go_wp2_with fail
  refine (wtake_any F5 g _ 1 _ R5.out).mono ?_
  rw [show takeErr [3] 1 = 0 by decide, show takeLeft [3] 1 = [] by decide, show takeVal [3] 1 = [3] by decide]
  rintro e w6 ⟨A6, n6, c6, rfl, o6, ⟨F6, r6, _, _⟩, k6⟩
  have R6 := Lib.hid r6
  have K6 := Lib.hid (grown_keep k6 w2 K5.out hg)
  have O6 := Lib.hid o6
  clear r6 k6 o6
  go_wp2_with fail
  have l1 := Bytes.lit (w := w6) (h := w6.heap.size) rfl 5 3 [0, 1, 2] #[.int .u8 0, .int .u8 1, .int .u8 2] rfl rfl (by decide) (by decide)
  have a1 := (O1.out.bytes.keep (Nat.le_refl _) (Keep.trans H2.out K6.out)).alloc (Nat.le_trans H2.out.size K6.out.size) (.cells #[.int .u8 0, .int .u8 1, .int .u8 2] 5)
  refine (equal_any _ _ n1 3 _ _ _ _ _ _ _ a1 l1).mono ?_
  rw [show decide (([0, 1, 2] : List Nat) = [0, 1, 2]) = true by decide]
  rintro e w7 ⟨rfl, rfl⟩
  have K7 := Lib.hid ((Keep.refl w6).alloc #[.int .u8 0, .int .u8 1, .int .u8 2] 5)
  clear l1 a1
  go_wp2_with fail
  have l1 := Bytes.lit (w := w6.alloc (.cells #[.int .u8 0, .int .u8 1, .int .u8 2] 5)) (h := w6.heap.size + 1) (by simp) 5 1 [3] #[.int .u8 3] rfl rfl (by decide) (by decide)
  have a1 := ((O6.out.bytes.alloc (Nat.le_refl _) (.cells #[.int .u8 0, .int .u8 1, .int .u8 2] 5))).alloc (by simp) (.cells #[.int .u8 3] 5)
  refine (equal_any _ _ n6 1 _ _ _ _ _ _ _ a1 l1).mono ?_
  rw [show decide (([3] : List Nat) = [3]) = true by decide]
  rintro e w8 ⟨rfl, rfl⟩
  have K8 := Lib.hid (((Keep.refl w6).alloc #[.int .u8 0, .int .u8 1, .int .u8 2] 5).alloc #[.int .u8 3] 5)
  have R8 := Lib.hid (R6.out.keep K8.out)
  clear l1 a1
  go_wp2_with fail
  refine (wend_any F6 g _ _ R8.out).mono ?_
  rw [show endErr [] = 0 by decide]
  rintro e w9 ⟨rfl, rfl⟩
  go_wp2_with fail
  go_ret
  exact ⟨rfl, Keep.trans G2.out (Keep.trans K6.out K8.out)⟩
end Go.Proofs.Ytpmildbgmmiaeaa
