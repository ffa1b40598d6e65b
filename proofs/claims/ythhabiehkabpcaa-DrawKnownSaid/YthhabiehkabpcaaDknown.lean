/- The walk of DrawKnown. -/
import Derived.Test.YthhabiehkabpcaaDaw
namespace Go.Proofs.Ythhabiehkabpcaa
open Go.RowKit
set_option linter.unusedVariables false
set_option linter.unusedSimpArgs false
theorem ex_three : coefN 3 0 [7] = [7, 0, 0] := by decide +kernel
theorem ex_four : coefN 2 1 [] = [0, 1] := by decide +kernel
theorem turn_one (w : World) : Calls Try.prog 11 #[.int .u64 7, .int .i64 3] w fun e w' => e = .returned (.tuple #[.int .i64 1, .int .i64 0]) ∧ w = w' := turn_any 7 3 (by decide) (by decide) (by decide) w
theorem turn_two (w : World) : Calls Try.prog 11 #[.int .u64 7, .int .i64 0] w fun e w' => e = .returned (.tuple #[.int .i64 0, .int .i64 1]) ∧ w = w' := turn_bad 7 0 (by decide) w
theorem turn_three (w : World) : Calls Try.prog 11 #[.int .u64 18446744073709551615, .int .i64 255] w fun e w' => e = .returned (.tuple #[.int .i64 0, .int .i64 0]) ∧ w = w' := turn_any 18446744073709551615 255 (by decide) (by decide) (by decide) w
theorem coefs_err (m c : Nat) (A : Option Addr) (n k : Int) (h : n < 1 ∨ 255 < n ∨ k < 0 ∨ n ≤ k) (w : World) :
    Calls Try.prog 7 #[.slice A m c, .int .i64 n, .int .i64 k] w fun e w' => ∃ A c, e = .returned (.tuple #[.slice A 0 c, .int .i64 1]) ∧ Keep w w' :=
  (coefs_bad m c A n k h w).mono fun e w' ⟨A, n, c, e1, o, kp⟩ => by
    obtain rfl : n = 0 := o.length.symm
    exact ⟨A, c, e1, kp⟩
theorem coefs_none (w : World) : Calls Try.prog 7 #[.slice none 0 0, .int .i64 2, .int .i64 1] w fun e w' => ∃ A c, e = .returned (.tuple #[.slice A 2 c, .int .i64 0]) ∧ Bytes w' w'.heap.size A 2 [0, 1] ∧ Keep w w' :=
  (coefs_any w.heap.size 2 1 0 0 none [] w (Bytes.nil _ _ _) (Nat.le_refl _) (by decide) (by decide) (by decide)).mono fun e w' ⟨A, n, c, e1, o, kp⟩ => by
    obtain rfl : n = 2 := by have := o.length; rw [coefN_len] at this; exact this.symm
    exact ⟨A, c, e1, ex_four ▸ o.bytes, kp⟩
set_option maxRecDepth 100000 in
set_option maxHeartbeats 4000000 in
theorem known_any (W : World) : Calls Try.prog 6 #[] W fun e w' => e = .returned (.bool true) ∧ Keep W w' := by
  have HS := Lib.hid (sys_any (-1) 3 false (by decide))
  have HT := Lib.hid (sys_any 0 1 true (by decide))
  go_enter Try.func6, Try.ntmps6
  go_wp2_with fail
  refine (coefs_lit 3 0 1 [7] [7, 0, 0] rfl (by decide) (by decide) _ rfl (by decide) (by decide) (by decide) ex_three _).mono ?_
  rintro e w1 ⟨A1, c1, rfl, b1, k1⟩
  have B1 := Lib.hid b1
  have K1 := Lib.hid k1
  clear b1 k1
  go_wp2_with fail
  refine (coefs_none _).mono ?_
  rintro e w2 ⟨A2, c2, rfl, b2, k2⟩
  have B1' := Lib.hid (B1.out.later k2)
  have B2 := Lib.hid b2
  have K2 := Lib.hid (K1.out.trans k2)
  clear b2 k2 B1 K1
  go_wp2_with fail
  refine (coefs_err 0 0 none 0 0 (by decide) _).mono ?_
  rintro e w3 ⟨Ae0, ce0, rfl, ke⟩
  have KE := Lib.hid (ke)
  have C1_0 := Lib.hid (B1'.out.later KE.out)
  have C2_0 := Lib.hid (B2.out.later KE.out)
  have D0 := Lib.hid (K2.out.trans KE.out)
  clear ke KE B1' B2 K2
  go_wp2_with fail
  refine (coefs_err 0 0 none 256 0 (by decide) _).mono ?_
  rintro e w4 ⟨Ae1, ce1, rfl, ke⟩
  have KE := Lib.hid (ke)
  have C1_1 := Lib.hid (C1_0.out.later KE.out)
  have C2_1 := Lib.hid (C2_0.out.later KE.out)
  have D1 := Lib.hid (D0.out.trans KE.out)
  clear ke KE C1_0 C2_0 D0
  go_wp2_with fail
  refine (coefs_err 0 0 none 3 3 (by decide) _).mono ?_
  rintro e w5 ⟨Ae2, ce2, rfl, ke⟩
  have KE := Lib.hid (ke)
  have C1_2 := Lib.hid (C1_1.out.later KE.out)
  have C2_2 := Lib.hid (C2_1.out.later KE.out)
  have D2 := Lib.hid (D1.out.trans KE.out)
  clear ke KE C1_1 C2_1 D1
  go_wp2_with fail
  obtain ⟨wl, hwl⟩ : ∃ wl, w5.alloc (.cells #[.int .u8 1] 5) = wl := ⟨_, rfl⟩
  have HL := Lib.hid (one_lit w5 [1] 1 rfl (by decide) (by decide) _ rfl hwl).2
  rw [hwl]
  clear hwl
  refine (coefs_err 1 1 _ 3 (-1) (by decide) _).mono ?_
  rintro e w6 ⟨Ae3, ce3, rfl, ke⟩
  have KE := Lib.hid (HL.out.trans ke)
  have C1_3 := Lib.hid (C1_2.out.later KE.out)
  have C2_3 := Lib.hid (C2_2.out.later KE.out)
  have D3 := Lib.hid (D2.out.trans KE.out)
  clear ke KE C1_2 C2_2 D2 HL
  go_wp2_with fail
  refine (turn_one _).mono ?_
  rintro e wt ⟨rfl, rfl⟩
  go_wp2_with fail
  refine (turn_two _).mono ?_
  rintro e wt ⟨rfl, rfl⟩
  go_wp2_with fail
  refine (turn_three _).mono ?_
  rintro e wt ⟨rfl, rfl⟩
  go_wp2_with fail
  refine (awake_any _).mono ?_
  rintro e w8 ⟨rfl, k8⟩
  have E1 := Lib.hid (C1_3.out.later k8)
  have E2 := Lib.hid (C2_3.out.later k8)
  have K8 := Lib.hid (D3.out.trans k8)
  clear k8 C1_3 C2_3 D3
  go_wp2_with fail
  obtain ⟨wl, hwl⟩ : ∃ wl, w8.alloc (.cells #[.int .u8 7, .int .u8 0, .int .u8 0] 5) = wl := ⟨_, rfl⟩
  have HL := Lib.hid (one_lit w8 [7, 0, 0] 3 rfl (by decide) (by decide) _ rfl hwl)
  rw [hwl]
  clear hwl
  refine (equal_any _ _ 3 3 _ _ _ _ [7, 0, 0] [7, 0, 0] _ (E1.out.later HL.out.2) HL.out.1).mono ?_
  rintro e w9 ⟨rfl, rfl⟩
  have F2 := Lib.hid (E2.out.later HL.out.2)
  have K9 := Lib.hid (K8.out.trans HL.out.2)
  clear HL E1 E2 K8
  go_wp2_with fail
  obtain ⟨wm, hwm⟩ : ∃ wm, wl.alloc (.cells #[.int .u8 0, .int .u8 1] 5) = wm := ⟨_, rfl⟩
  have HL := Lib.hid (one_lit wl [0, 1] 2 rfl (by decide) (by decide) _ rfl hwm)
  rw [hwm]
  clear hwm
  refine (equal_any _ _ 2 2 _ _ _ _ [0, 1] [0, 1] _ (F2.out.later HL.out.2) HL.out.1).mono ?_
  rintro e w9 ⟨rfl, rfl⟩
  have KA := Lib.hid (K9.out.trans HL.out.2)
  clear HL F2 K9
  go_wp2_with fail
  refine (HS.out _).mono ?_
  rintro e w10 ⟨rfl, rfl⟩
  go_wp2_with fail
  refine (HT.out _).mono ?_
  rintro e w10 ⟨rfl, rfl⟩
  go_wp2_with fail
  go_ret
  exact ⟨rfl, KA.out⟩
end Go.Proofs.Ythhabiehkabpcaa
