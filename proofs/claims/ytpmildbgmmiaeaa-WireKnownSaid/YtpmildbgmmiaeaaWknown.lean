/- The walk of WireKnown. -/
import Derived.Test.YtpmildbgmmiaeaaAwake
namespace Go.Proofs.Ytpmildbgmmiaeaa
open Go.RowKit
set_option maxRecDepth 100000 in
set_option maxHeartbeats 4000000 in
theorem wknown_any (w : World) : Calls Try.prog 8 #[] w fun e w' => e = .returned (.bool true) ∧ Keep w w' := by
  go_enter Try.func8, Try.ntmps8
  go_wp2_with fail
  refine (awake_any _).mono ?_
  rintro e w1 ⟨rfl, s1⟩
  have K1 := Lib.hid s1
  clear s1
  go_wp2_with fail
  refine (wnum_any 0 0 0 0 9 none [] _ (Bytes.nil _ _ _) (by simp) (by decide) (by decide)).mono ?_
  rw [show numErr 0 9 = 1 by decide]
  rintro e w2 ⟨A2, n2, c2, rfl, _, s2⟩
  have K2 := Lib.hid (Keep.trans K1.out s2)
  clear s2
  go_wp2_with fail
  refine (wnum_any 0 0 0 0 0 none [] _ (Bytes.nil _ _ _) (by simp) (by decide) (by decide)).mono ?_
  rw [show numErr 0 0 = 1 by decide]
  rintro e w3 ⟨A3, n3, c3, rfl, _, s3⟩
  have K3 := Lib.hid (Keep.trans K2.out s3)
  clear s3
  go_wp2_with fail
  have l1 := Bytes.lit (w := w3) (h := w3.heap.size) rfl 5 1 [7] #[.int .u8 7] rfl rfl (by decide) (by decide)
  refine (wnum_any _ 1 1 18446744073709551615 8 _ [7] _ l1 (by simp) (by decide) (by decide)).mono ?_
  rw [show numErr 18446744073709551615 8 = 0 by decide +kernel, show numOf [7] 18446744073709551615 8 = [7, 255, 255, 255, 255, 255, 255, 255, 255] by decide +kernel]
  rintro e w4 ⟨A4, n4, c4, rfl, o4, s4⟩
  obtain rfl : n4 = 9 := o4.length.symm
  obtain ⟨g4, rfl, _, _⟩ := o4.block (by decide)
  have O4 := Lib.hid o4
  have K4 := Lib.hid (Keep.trans (K3.out.alloc #[.int .u8 7] 5) s4)
  clear o4 s4 l1
  go_wp2_with fail
  have l1 := Bytes.lit (w := w4) (h := w4.heap.size) rfl 5 1 [1] #[.int .u8 1] rfl rfl (by decide) (by decide)
  refine (wnew_any _ 1 1 _ _ _ l1 (by simp) (by decide)).mono ?_
  rintro e w5 ⟨g, F5, rfl, r5, f5, s5⟩
  have S5 := Lib.hid (Keep.trans ((Keep.refl w4).alloc #[.int .u8 1] 5) s5)
  have hg : w4.heap.size ≤ g := by have := f5 g r5.at_; simp at this; omega
  have R5 := Lib.hid r5
  clear l1 r5 s5 f5
  go_wp2_with fail
  refine (wread_any F5 g _ 2 _ R5.out).mono ?_
  rw [show readErr [1] 2 = 4 by decide, show readLeft [1] 2 = [1] by decide]
  rintro e w6 ⟨rfl, ⟨F6, r6, _⟩, k6⟩
  have R6 := Lib.hid r6
  have S6 := Lib.hid (grown_keep k6 w4 S5.out hg)
  clear r6 k6
  go_wp2_with fail
  refine (wread_any F6 g _ 0 _ R6.out).mono ?_
  rw [show readErr [1] 0 = 1 by decide, show readLeft [1] 0 = [1] by decide]
  rintro e w7 ⟨rfl, ⟨F7, r7, _⟩, k7⟩
  have R7 := Lib.hid r7
  have S7 := Lib.hid (grown_keep k7 w4 S6.out hg)
  clear r7 k7
  go_wp2_with fail
  refine (wtake_any F7 g _ (-1) _ R7.out).mono ?_
  rw [show takeErr [1] (-1) = 1 by decide, show takeLeft [1] (-1) = [1] by decide]
  rintro e w8 ⟨A8, n8, c8, rfl, _, ⟨F8, r8, _, _⟩, k8⟩
  have R8 := Lib.hid r8
  have S8 := Lib.hid (grown_keep k8 w4 S7.out hg)
  clear r8 k8
  go_wp2_with fail
  refine (wtake_any F8 g _ 0 _ R8.out).mono ?_
  rw [show takeErr [1] 0 = 0 by decide, show takeLeft [1] 0 = [1] by decide, show takeVal [1] 0 = [] by decide]
  rintro e w9 ⟨A9, n9, c9, rfl, o9, ⟨F9, r9, _, _⟩, k9⟩
  obtain rfl : n9 = 0 := o9.length.symm
  have R9 := Lib.hid r9
  have S9 := Lib.hid (grown_keep k9 w4 S8.out hg)
  clear r9 k9 o9
  go_wp2_with fail
  refine (wread_nil 1 _).mono ?_
  rintro e w10 ⟨rfl, s10⟩
  have S10 := Lib.hid s10
  clear s10
  go_wp2_with fail
  refine (wtake_nil 0 _).mono ?_
  rintro e w11 ⟨A11, n11, c11, rfl, _, s11⟩
  have S11 := Lib.hid (Keep.trans S10.out s11)
  have R11 := Lib.hid (R9.out.keep S11.out)
  have KE := Lib.hid (Keep.trans K4.out (Keep.trans S9.out S11.out))
  have O11 := O4.out.keep (Keep.trans S9.out S11.out)
  have x1 := O11.cell (i := 0) (by decide)
  have x2 := O11.cell (i := 8) (by decide)
  rw [show ([7, 255, 255, 255, 255, 255, 255, 255, 255] : List Nat).getD 0 0 = 7 from rfl] at x1
  rw [show ([7, 255, 255, 255, 255, 255, 255, 255, 255] : List Nat).getD 8 0 = 255 from rfl] at x2
  clear s11 O11
  go_wp2_with fail
  refine (wleft_any F9 g _ _ R11.out).mono ?_
  rw [show (([1] : List Nat).length : Int) = 1 from rfl]
  rintro e wa ⟨rfl, rfl⟩
  clear x1 x2
  go_wp2_with fail
  refine (wend_any F9 g _ _ R11.out).mono ?_
  rw [show endErr [1] = 3 by decide]
  rintro e wa ⟨rfl, rfl⟩
  go_wp2_with fail
  refine (wleft_nil _).mono ?_
  rintro e wa ⟨rfl, rfl⟩
  go_wp2_with fail
  refine (wend_nil _).mono ?_
  rintro e wa ⟨rfl, rfl⟩
  go_wp2_with fail
  refine (wend_zero _).mono ?_
  rintro e wb ⟨rfl, sb⟩
  have SB := Lib.hid sb
  clear sb
  go_wp2_with fail
  go_ret
  exact ⟨rfl, Keep.trans KE.out SB.out⟩
end Go.Proofs.Ytpmildbgmmiaeaa
