/- The chapter's rows, none, limits: TimerKnown. -/
import Derived.Test.YtjjoieahodfikaaQae
namespace Go.Proofs.Ytjjoieahodfikaa
open Go.RowKit Go.Maps Tmr
set_option linter.unusedVariables false
set_option linter.unusedSimpArgs false
set_option maxRecDepth 100000
set_option maxHeartbeats 8000000 in
theorem tknown (W : World) : Calls Try.prog 7 #[] W fun r w' => r = .returned (.bool true) ∧ Keep W w' := by
  go_enter Try.func7, Try.ntmps7
  go_wp2_with fail
  refine (tawake W).mono ?_
  rintro e v0 ⟨rfl, k0⟩
  have K0 := Lib.hid k0
  clear k0
  go_wp2_with fail
  refine (one_new v0).mono ?_
  rintro e w0 ⟨g, mb, rfl, t⟩
  have T0 := Lib.hid t
  clear t
  go_wp2_with fail
  refine (one_set T0.out (1) 3 (E := 0) (l2 := [⟨1, 3, 3⟩]) (by decide) (by kernel_rfl) (by decide) (by decide) (by decide)).mono ?_
  rintro e w1 ⟨rfl, t, -⟩
  have T1 := Lib.hid t
  clear t
  go_wp2_with fail
  refine (one_set T1.out (1) 4 (E := 9) (l2 := [⟨1, 3, 3⟩]) (by decide) (by kernel_rfl) (by decide) (by decide) (by decide)).mono ?_
  rintro e w2 ⟨rfl, t, -⟩
  have T2 := Lib.hid t
  clear t
  go_wp2_with fail
  refine (one_set T2.out (2) 0 (E := 1) (l2 := [⟨1, 3, 3⟩]) (by decide) (by kernel_rfl) (by decide) (by decide) (by decide)).mono ?_
  rintro e w3 ⟨rfl, t, -⟩
  have T3 := Lib.hid t
  clear t
  go_wp2_with fail
  refine (one_stop T3.out (7) (E := 6) (l2 := [⟨1, 3, 3⟩]) (by decide) (by kernel_rfl) (by decide) (by decide)).mono ?_
  rintro e w4 ⟨rfl, t, -⟩
  have T4 := Lib.hid t
  clear t
  go_wp2_with fail
  refine (one_set T4.out (-1) 1 (E := 1) (l2 := [⟨1, 3, 3⟩]) (by decide) (by kernel_rfl) (by decide) (by decide) (by decide)).mono ?_
  rintro e w5 ⟨rfl, t, -⟩
  have T5 := Lib.hid t
  clear t
  go_wp2_with fail
  refine (one_set T5.out (2) 1099511627777 (E := 1) (l2 := [⟨1, 3, 3⟩]) (by decide) (by kernel_rfl) (by decide) (by decide) (by decide)).mono ?_
  rintro e w6 ⟨rfl, t, -⟩
  have T6 := Lib.hid t
  clear t
  go_wp2_with fail
  refine (one_again T6.out (7) (E := 6) (l2 := [⟨1, 3, 3⟩]) (by decide) (by kernel_rfl) (by decide) (by decide)).mono ?_
  rintro e w7 ⟨rfl, t, -⟩
  have T7 := Lib.hid t
  clear t
  go_wp2_with fail
  refine (one_tick T7.out 1099511627777 (E := 1) (k := 0) (m := 0) (zs := []) (l2 := [⟨1, 3, 3⟩]) (by decide) (by decide) (by kernel_rfl) rfl (by kernel_rfl) (by decide)).mono ?_
  rintro e w8 ⟨A, c, rfl, -, t, -⟩
  have T8 := Lib.hid t
  clear t
  go_wp2_with fail
  refine (one_tick T8.out 1099511627776 (E := 0) (k := 1099511627776) (m := 1) (zs := [1]) (l2 := [⟨1, 3, 1099511627776⟩]) (by decide) (by decide) (by kernel_rfl) rfl (by kernel_rfl) (by decide)).mono ?_
  rintro e w9 ⟨A, c, rfl, -, t, -⟩
  have T9 := Lib.hid t
  clear t
  go_wp2_with fail
  refine (one_tick T9.out 1 (E := 1) (k := 1099511627776) (m := 0) (zs := []) (l2 := [⟨1, 3, 1099511627776⟩]) (by decide) (by decide) (by kernel_rfl) rfl (by kernel_rfl) (by decide)).mono ?_
  rintro e w10 ⟨A, c, rfl, -, t, -⟩
  have T10 := Lib.hid t
  clear t
  go_wp2_with fail
  refine (one_tick T10.out 0 (E := 0) (k := 1099511627776) (m := 1) (zs := [1]) (l2 := [⟨1, 3, 1099511627776⟩]) (by decide) (by decide) (by kernel_rfl) rfl (by kernel_rfl) (by decide)).mono ?_
  rintro e w11 ⟨A, c, rfl, -, t, -⟩
  have T11 := Lib.hid t
  clear t
  go_wp2_with fail
  refine (one_next T11.out (v := 1099511627776) (b := true) (by decide) (by decide)).mono ?_
  rintro e w12 ⟨rfl, t, -⟩
  have T12 := Lib.hid t
  clear t
  go_wp2_with fail
  refine (one_stop T12.out (1) (E := 0) (l2 := []) (by decide) (by kernel_rfl) (by decide) (by decide)).mono ?_
  rintro e w13 ⟨rfl, t, -⟩
  have T13 := Lib.hid t
  clear t
  go_wp2_with fail
  refine (one_next T13.out (v := 0) (b := false) (by decide) (by decide)).mono ?_
  rintro e w14 ⟨rfl, t, -⟩
  have T14 := Lib.hid t
  clear t
  go_wp2_with fail
  refine (ttick_nil _ 0).mono ?_
  rintro e w ⟨rfl, rfl⟩
  go_wp2_with fail
  refine (tnext_nil _).mono ?_
  rintro e w ⟨rfl, rfl⟩
  go_wp2_with fail
  refine (tset_nil _ 0 1).mono ?_
  rintro e w ⟨rfl, rfl⟩
  go_wp2_with fail
  refine (tstop_nil _ 0).mono ?_
  rintro e w ⟨rfl, rfl⟩
  go_wp2_with fail
  refine (tagain_nil _ 0).mono ?_
  rintro e w ⟨rfl, rfl⟩
  go_wp2_with fail
  refine (tnow_nil _).mono ?_
  rintro e w ⟨rfl, rfl⟩
  go_wp2_with fail
  refine (tnames_nil _).mono ?_
  rintro e w ⟨rfl, rfl⟩
  go_wp2_with fail
  go_ret
  exact ⟨rfl, K0.out.trans T14.out.k⟩
end Go.Proofs.Ytjjoieahodfikaa
