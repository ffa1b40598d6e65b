/- None, the zero value; the chapter's rows, limits: CreditKnown. -/
import Derived.Test.YtgogafhpchfinaaQab
namespace Go.Proofs.Ytgogafhpchfinaa
open Go.RowKit
set_option linter.unusedVariables false
set_option linter.unusedSimpArgs false
theorem nmade (w : World) : Calls Try.prog 29 #[.pointer none] w fun e w' => e = .returned (.bool false) ∧ w' = w := by
  go_enter Try.func29, Try.ntmps29
  go_wp2_with fail
  go_ret
  exact ⟨rfl, rfl⟩
theorem nsent (w : World) : Calls Try.prog 24 #[.pointer none] w fun e w' => e = .returned (.int .u64 0) ∧ w' = w := by
  go_enter Try.func24, Try.ntmps24
  go_wp2_with fail
  refine (nmade _).mono ?_
  rintro e w1 ⟨rfl, rfl⟩
  go_wp2_with fail
  go_ret
  exact ⟨rfl, rfl⟩
theorem ngranted (w : World) : Calls Try.prog 25 #[.pointer none] w fun e w' => e = .returned (.int .u64 0) ∧ w' = w := by
  go_enter Try.func25, Try.ntmps25
  go_wp2_with fail
  refine (nmade _).mono ?_
  rintro e w1 ⟨rfl, rfl⟩
  go_wp2_with fail
  go_ret
  exact ⟨rfl, rfl⟩
theorem nuse (w : World) : Calls Try.prog 14 #[.pointer none] w fun e w' => e = .returned (.tuple #[.int .u64 0, .int .i64 2]) ∧ w' = w := by
  go_enter Try.func14, Try.ntmps14
  go_wp2_with fail
  refine (nmade _).mono ?_
  rintro e w1 ⟨rfl, rfl⟩
  go_wp2_with fail
  go_ret2
  exact ⟨rfl, rfl⟩
theorem ntake (a b c : Int) (w : World) : Calls Try.prog 16 #[.pointer none, .int .u64 a, .int .u64 b, .int .u64 c] w fun e w' => e = .returned (.int .i64 2) ∧ w' = w := by
  go_enter Try.func16, Try.ntmps16
  go_wp2_with fail
  refine (nmade _).mono ?_
  rintro e w1 ⟨rfl, rfl⟩
  go_wp2_with fail
  go_ret
  exact ⟨rfl, rfl⟩
theorem nmay (w : World) : Calls Try.prog 22 #[.pointer none] w fun e w' => e = .returned (.bool false) ∧ w' = w := by
  go_enter Try.func22, Try.ntmps22
  go_wp2_with fail
  refine (ngranted _).mono ?_
  rintro e w1 ⟨rfl, rfl⟩
  go_wp2_with fail
  refine (nsent _).mono ?_
  rintro e w1 ⟨rfl, rfl⟩
  go_wp2_with fail
  go_ret
  exact ⟨rfl, rfl⟩
theorem zmade (g : Nat) (w : World) (h : w.cell? ⟨g, 0, none⟩ = some (.int .i64 0)) : Calls Try.prog 34 #[.pointer (some ⟨g, 0, none⟩)] w fun e w' => e = .returned (.bool false) ∧ w' = w := by
  go_enter Try.func34, Try.ntmps34
  go_wp2_with fail
  go_ret
  exact ⟨rfl, rfl⟩
theorem zlife (g : Nat) (w : World) (h : w.cell? ⟨g, 0, none⟩ = some (.int .i64 0)) : Calls Try.prog 26 #[.pointer (some ⟨g, 0, none⟩)] w fun e w' => e = .returned (.int .u64 0) ∧ w' = w := by
  go_enter Try.func26, Try.ntmps26
  go_wp2_with fail
  refine (zmade g _ h).mono ?_
  rintro e w1 ⟨rfl, rfl⟩
  go_wp2_with fail
  go_ret
  exact ⟨rfl, rfl⟩
theorem zseen (g : Nat) (w : World) (h : w.cell? ⟨g, 0, none⟩ = some (.int .i64 0)) : Calls Try.prog 27 #[.pointer (some ⟨g, 0, none⟩)] w fun e w' => e = .returned (.int .u64 0) ∧ w' = w := by
  go_enter Try.func27, Try.ntmps27
  go_wp2_with fail
  refine (zmade g _ h).mono ?_
  rintro e w1 ⟨rfl, rfl⟩
  go_wp2_with fail
  go_ret
  exact ⟨rfl, rfl⟩
theorem zgrant (a : Int) (g : Nat) (w : World) (h : w.cell? ⟨g, 0, none⟩ = some (.int .i64 0)) : Calls Try.prog 20 #[.pointer (some ⟨g, 0, none⟩), .int .i64 a] w fun e w' => e = .returned (.tuple #[.int .u64 0, .int .i64 2]) ∧ w' = w := by
  go_enter Try.func20, Try.ntmps20
  go_wp2_with fail
  refine (zmade g _ h).mono ?_
  rintro e w1 ⟨rfl, rfl⟩
  go_wp2_with fail
  go_ret2
  exact ⟨rfl, rfl⟩
theorem zsaw (a b : Int) (g : Nat) (w : World) (h : w.cell? ⟨g, 0, none⟩ = some (.int .i64 0)) : Calls Try.prog 18 #[.pointer (some ⟨g, 0, none⟩), .int .u64 a, .int .u64 b] w fun e w' => e = .returned (.int .i64 2) ∧ w' = w := by
  go_enter Try.func18, Try.ntmps18
  go_wp2_with fail
  refine (zmade g _ h).mono ?_
  rintro e w1 ⟨rfl, rfl⟩
  go_wp2_with fail
  go_ret
  exact ⟨rfl, rfl⟩
set_option maxRecDepth 100000 in
set_option maxHeartbeats 8000000 in
theorem cknown (W : World) : Calls Try.prog 8 #[] W fun e w' => e = .returned (.bool true) ∧ Keep W w' := by
  have kz : Keep W (W.alloc (.cells #[.int .i64 0, .int .u64 0, .complex .f64 0 0] 74)) := (Keep.refl W).alloc _ _
  have cz : (W.alloc (.cells #[.int .i64 0, .int .u64 0, .complex .f64 0 0] 74)).cell? ⟨W.heap.size, 0, none⟩ = some (.int .i64 0) := by unfold World.cell?; rw [heap_alloc_new]; rfl
  obtain ⟨w0, hw0⟩ : ∃ x, W.alloc (.cells #[.int .i64 0, .int .u64 0, .complex .f64 0 0] 74) = x := ⟨_, rfl⟩
  obtain ⟨g, hg⟩ : ∃ g, W.heap.size = g := ⟨_, rfl⟩
  rw [hw0] at kz cz
  rw [hg] at cz
  have KZ := Lib.hid kz
  have CZ := Lib.hid cz
  clear kz cz
  go_enter Try.func8, Try.ntmps8
  go_wp2_with fail
  refine (nuse _).mono ?_
  rintro e w ⟨rfl, rfl⟩
  go_wp2_with fail
  refine (zgrant 0 g _ CZ.out).mono ?_
  rintro e w ⟨rfl, rfl⟩
  go_wp2_with fail
  refine (snew_bad 0 (by decide) _).mono ?_
  rintro e w ⟨rfl, rfl⟩
  go_wp2_with fail
  refine (snew_bad 1125899906842625 (by decide) _).mono ?_
  rintro e w ⟨rfl, rfl⟩
  go_wp2_with fail
  refine (rnew_bad 65 (by decide) _).mono ?_
  rintro e w ⟨rfl, rfl⟩
  go_wp2_with fail
  refine (rnew_bad 0 (by decide) _).mono ?_
  rintro e w ⟨rfl, rfl⟩
  go_wp2_with fail
  refine (ntake _ _ _ _).mono ?_
  rintro e w ⟨rfl, rfl⟩
  go_wp2_with fail
  refine (zsaw 1 1 g _ CZ.out).mono ?_
  rintro e w ⟨rfl, rfl⟩
  go_wp2_with fail
  refine (nmay _).mono ?_
  rintro e w ⟨rfl, rfl⟩
  go_wp2_with fail
  refine (nsent _).mono ?_
  rintro e w ⟨rfl, rfl⟩
  go_wp2_with fail
  refine (ngranted _).mono ?_
  rintro e w ⟨rfl, rfl⟩
  go_wp2_with fail
  refine (zlife g _ CZ.out).mono ?_
  rintro e w ⟨rfl, rfl⟩
  go_wp2_with fail
  refine (zseen g _ CZ.out).mono ?_
  rintro e w ⟨rfl, rfl⟩
  go_wp2_with fail
  refine (snew_in 1125899906842624 (by decide) _).mono ?_
  rintro e v0 ⟨rfl, h0, k0⟩
  obtain ⟨s, hs⟩ : ∃ s, w.heap.size = s := ⟨_, rfl⟩
  rw [hs] at h0
  simp only [hs]
  have H0 := Lib.hid h0
  have K0 := Lib.hid k0
  have HS := Lib.hid hs
  clear h0 k0 hs
  go_wp2_with fail
  refine (rnew_in 64 (by decide) (by decide) _).mono ?_
  rintro e v1 ⟨rfl, h1, k1⟩
  obtain ⟨r, hr⟩ : ∃ r, v0.heap.size = r := ⟨_, rfl⟩
  rw [hr] at h1
  simp only [hr]
  have T0 : Hid (Two W v1 s r 1125899906842624 0 0 0 64 0 0 0) := Lib.hid ⟨H0.out.keep k1, h1, (by have := H0.out.lt; omega), (by have := KZ.out.size; have := HS.out; omega), (by have := KZ.out.size; have := K0.out.size; omega), (KZ.out.trans K0.out).trans k1⟩
  clear h1 k1 hr
  go_wp2_with fail
  refine (two_take T0.out 1125899906842624 1125899906842624 1125899906842624 (E := 0) (P := 1125899906842624) (G := 1125899906842624) (by decide) (by decide) (by decide) rfl rfl rfl).mono ?_
  rintro e u1 ⟨rfl, t1, -⟩
  have T1 := Lib.hid t1
  clear t1
  go_wp2_with fail
  refine (two_take T1.out 0 1125899906842624 1 (E := 1) (P := 1125899906842624) (G := 1125899906842624) (by decide) (by decide) (by decide) rfl rfl rfl).mono ?_
  rintro e u2 ⟨rfl, t2, -⟩
  have T2 := Lib.hid t2
  clear t2
  go_wp2_with fail
  refine (two_take T2.out 1 1125899906842624 1125899906842625 (E := 1) (P := 1125899906842624) (G := 1125899906842624) (by decide) (by decide) (by decide) rfl rfl rfl).mono ?_
  rintro e u3 ⟨rfl, t3, -⟩
  have T3 := Lib.hid t3
  clear t3
  go_wp2_with fail
  refine (two_saw T3.out 1 1125899906842624 (E := 0) (P := 1) (G := 0) (S := 1125899906842624) (by decide) (by decide) (by decide) (by decide) rfl rfl).mono ?_
  rintro e u4 ⟨rfl, t4, -⟩
  have T4 := Lib.hid t4
  clear t4
  go_wp2_with fail
  refine (two_grant T4.out 64 (E := 0) (V := 1125899906842624) (G := 1125899906842624) (by decide) (by decide) (by decide)).mono ?_
  rintro e u5 ⟨rfl, t5, -⟩
  have T5 := Lib.hid t5
  clear t5
  go_wp2_with fail
  refine (two_grant T5.out 65 (E := 1) (V := 0) (G := 1125899906842624) (by decide) (by decide) (by decide)).mono ?_
  rintro e u6 ⟨rfl, t6, -⟩
  have T6 := Lib.hid t6
  clear t6
  go_wp2_with fail
  refine (two_grant T6.out (-1) (E := 1) (V := 0) (G := 1125899906842624) (by decide) (by decide) (by decide)).mono ?_
  rintro e u7 ⟨rfl, t7, -⟩
  have T7 := Lib.hid t7
  clear t7
  go_wp2_with fail
  refine (sgranted T7.out.sen).mono ?_
  rintro e w ⟨rfl, rfl⟩
  go_wp2_with fail
  refine (two_saw T7.out 0 1 (E := 1) (P := 1) (G := 1125899906842624) (S := 1125899906842624) (by decide) (by decide) (by decide) (by decide) rfl rfl).mono ?_
  rintro e u8 ⟨rfl, t8, -⟩
  have T8 := Lib.hid t8
  clear t8
  go_wp2_with fail
  refine (cwakes _).mono ?_
  rintro e w9 ⟨rfl, k9⟩
  have K9 := Lib.hid (T8.out.kp.trans k9)
  clear k9
  go_wp2_with fail
  go_ret
  exact ⟨rfl, K9.out⟩
end Go.Proofs.Ytgogafhpchfinaa
