/- The walk of BasisKnown. -/
import Derived.Test.YticllkklbogcnaaBkp
set_option linter.unusedVariables false
set_option linter.unusedSimpArgs false
namespace Go.Proofs.Yticllkklbogcnaa
open Go.RowKit
set_option maxRecDepth 100000 in
set_option maxHeartbeats 8000000 in
theorem known_any (w : World) : Calls Try.prog 8 #[] w fun e w' => e = .returned (.bool true) ∧ Keep w w' := by
  go_enter Try.func8, Try.ntmps8
  go_wp2_with fail
  refine (awake_any _).mono ?_
  rintro e w1 ⟨rfl, k1⟩
  have K1 := Lib.hid k1
  clear k1
  go_wp2_with fail
  refine (bnew_out 0 1 (by omega) _).mono ?_
  rintro e w2 ⟨rfl, k2⟩
  have K2 := Lib.hid (K1.out.trans k2)
  clear k2 K1
  go_wp2_with fail
  refine (bnew_out 256 1 (by omega) _).mono ?_
  rintro e w3 ⟨rfl, k3⟩
  have K3 := Lib.hid (K2.out.trans k3)
  clear k3 K2
  go_wp2_with fail
  refine (bnew_out 1 0 (by omega) _).mono ?_
  rintro e w4 ⟨rfl, k4⟩
  have K4 := Lib.hid (K3.out.trans k4)
  clear k4 K3
  go_wp2_with fail
  refine (bnew_out 1 65536 (by omega) _).mono ?_
  rintro e w5 ⟨rfl, k5⟩
  have K5 := Lib.hid (K4.out.trans k5)
  clear k5 K4
  go_wp2_with fail
  refine (bnew_in 255 1 (by omega) (by omega) (by omega) (by omega) _).mono ?_
  rintro e w6 ⟨b, F, rfl, r6, f6, k6⟩
  have R6 := Lib.hid r6
  have F6 : Hid (∀ k, F k → w.heap.size ≤ k) := fun k hk => Nat.le_trans K5.out.size (f6 k hk)
  have K6 := Lib.hid (K5.out.trans k6)
  clear r6 f6 k6 K5
  go_wp2_with fail
  go_loopw [58] (fun iv wr => ∃ (i : Nat) (F : Nat → Prop) (B : List (List Nat)), i ≤ 255 ∧ iv = .int .i64 i ∧ BasR wr F b 255 1 B ∧ Up i B ∧ (∀ x, F x → w.heap.size ≤ x) ∧ Keep w wr) (fun iv _ => 255 - (intOf iv).toNat)
  case atStart => exact ⟨0, F, [], by omega, rfl, R6.out, Up.nil, F6.out, K6.out⟩
  case round =>
    clear R6 F6 K6
    obtain ⟨i, F, B, hi, rfl, hR, hU, hF, hK⟩ := hrel
    have HR := Lib.hid hR
    have HU := Lib.hid hU
    have HF := Lib.hid hF
    have HK := Lib.hid hK
    clear hR hU hF hK
    by_cases hlt : i < 255
    · have e1 : (0 : Int) ≤ (i : Int) := Int.natCast_nonneg _
      have e2 : (i : Int) < 255 := by omega
      obtain ⟨j, hj⟩ : ∃ j, i + j = 254 := ⟨254 - i, by omega⟩
      obtain ⟨v, hv⟩ : ∃ v, i + 1 = v := ⟨_, rfl⟩
      have s1 : (254 : Int) - (i : Int) = (j : Int) := by omega
      have s2 : IntKind.i64.wrap (j : Int) = (j : Int) := IntWalk.i64_in _ (by omega)
      have s3 : (i : Int) % 255 = (i : Int) := by omega
      have s4 : (i : Int).tmod 255 = (i : Int) := by rw [Int.tmod_eq_emod_of_nonneg (by omega)]; exact s3
      have s5 : (1 : Int) + (i : Int) = (v : Int) := by omega
      have s6 : IntKind.i64.wrap (v : Int) = (v : Int) := IntWalk.i64_in _ (by omega)
      have s7 : IntKind.u8.wrap (v : Int) = (v : Int) := IntWalk.u8_in _ (by omega)
      have s8 : IntKind.u8.wrap (i : Int) = (i : Int) := IntWalk.u8_in _ (by omega)
      have s9 : (0 : Int) ≤ (j : Int) := Int.natCast_nonneg _
      have s10 : (j : Int) < 255 := by omega
      have mk : (Instr.makeSlice 31 (.int .i64 255) (.int .i64 255)).run Try.prog wr = .ok (.slice (some ⟨wr.heap.size, 0, none⟩) 255 255) (wr.alloc (.cells (madeCells #[.int .u8 0] 255) 5)) := run_make_bytes (P := Try.prog) Try.underlying31 info5 255 (by omega) wr
      obtain ⟨q, hq⟩ : ∃ q, wr.heap.size = q := ⟨_, rfl⟩
      have HQ := Lib.hid hq
      obtain ⟨wm, hwm⟩ : ∃ wm, wr.alloc (.cells (madeCells #[.int .u8 0] 255) 5) = wm := ⟨_, rfl⟩
      have om := Own.made wr 5 255 (by omega)
      have km : Keep wr (wr.alloc (.cells (madeCells #[.int .u8 0] 255) 5)) := (Keep.refl wr).alloc _ _
      have hqm : (wr.alloc (.cells (madeCells #[.int .u8 0] 255) 5)).heap.size = q + 1 := by rw [← hq]; simp
      rw [hwm] at mk om km hqm
      rw [hq] at mk om
      have ol := Own.lit wm 5 1 [i % 256] #[.int .u8 (i : Int)] (by rw [show i % 256 = i by omega]; rfl) rfl (by omega) (fun x hx => by rw [List.mem_singleton] at hx; omega)
      have kl : Keep wm (wm.alloc (.cells #[.int .u8 (i : Int)] 5)) := (Keep.refl wm).alloc _ _
      obtain ⟨wl, hwl⟩ : ∃ wl, wm.alloc (.cells #[.int .u8 (i : Int)] 5) = wl := ⟨_, rfl⟩
      rw [hwl] at kl ol
      rw [hqm] at ol
      have HL : Hid (Own wl q 5 (some ⟨q, 0, none⟩) 255 255 (List.replicate 255 0) ∧ Own wl (q + 1) 5 (some ⟨q + 1, 0, none⟩) 1 1 [i % 256] ∧ Keep wr wl) := ⟨om.keep kl, ol, km.trans kl⟩
      have HV := Lib.hid hv
      have HJ := Lib.hid hj
      clear om ol km kl hv hj hq
      go_wp2_with fail
      refine (rowR_any _ _ 255 1 255 1 _).mono ?_
      rintro e w7 ⟨rfl, k7⟩
      have H7 : Hid (Own w7 q 5 (some ⟨q, 0, none⟩) 255 255 (List.replicate 255 0) ∧ Own w7 (q + 1) 5 (some ⟨q + 1, 0, none⟩) 1 1 [i % 256] ∧ Keep wr w7) := ⟨HL.out.1.keep k7, HL.out.2.1.keep k7, HL.out.2.2.trans k7⟩
      have hqw : q + 2 ≤ w7.heap.size := by
        have h1 := (H7.out.2.1.1.lt (q + 1) rfl).2
        omega
      have ka : Keep w7 (w7.alloc (.cells #[.slice (some ⟨q, 0, none⟩) 255 255, .slice (some ⟨q + 1, 0, none⟩) 1 1] 33)) := (Keep.refl w7).alloc _ _
      have oa := H7.out.1.keep ka
      have c5 := oa.cell (i := j) (by omega)
      have f5 := oa.frozen j
      rw [show (List.replicate 255 0).getD j 0 = 0 by rw [List.getD_eq_getElem?_getD, List.getElem?_replicate]; split <;> rfl] at c5
      have c6 : ((w7.alloc (.cells #[.slice (some ⟨q, 0, none⟩) 255 255, .slice (some ⟨q + 1, 0, none⟩) 1 1] 33)).setCell ⟨q, j, none⟩ (.int .u8 (v : Int))).cell? ⟨w7.heap.size, 0, none⟩ = some (.slice (some ⟨q, 0, none⟩) 255 255) := by
        rw [World.cell?_setCell_far _ _ _ _ (show q ≠ w7.heap.size by omega), World.cell?_alloc_at _ _ _ _ rfl]; rfl
      have c7 : ((w7.alloc (.cells #[.slice (some ⟨q, 0, none⟩) 255 255, .slice (some ⟨q + 1, 0, none⟩) 1 1] 33)).setCell ⟨q, j, none⟩ (.int .u8 (v : Int))).cell? ⟨w7.heap.size, 1, none⟩ = some (.slice (some ⟨q + 1, 0, none⟩) 1 1) := by
        rw [World.cell?_setCell_far _ _ _ _ (show q ≠ w7.heap.size by omega), World.cell?_alloc_at _ _ _ _ rfl]; rfl
      obtain ⟨ws, hws⟩ : ∃ ws, ((w7.alloc (.cells #[.slice (some ⟨q, 0, none⟩) 255 255, .slice (some ⟨q + 1, 0, none⟩) 1 1] 33)).setCell ⟨q, j, none⟩ (.int .u8 (v : Int))) = ws := ⟨_, rfl⟩
      have HS : Hid (Own ws q 5 (some ⟨q, 0, none⟩) 255 255 (upC i) ∧ Own ws (q + 1) 5 (some ⟨q + 1, 0, none⟩) 1 1 [i % 256] ∧ Keep wr ws) := by
        rw [← hws]
        refine ⟨?_, (H7.out.2.1.keep ka).far (by show some (q + 1) ≠ some q; simp) _, (H7.out.2.2.trans ka).setCell (by rw [HQ.out]; exact Nat.le_refl q) _⟩
        have := oa.stored (i := j) (v := v) (by have := HV.out; omega)
        rw [upC, show 254 - i = j by have := HJ.out; omega, show 1 + i % 255 = v by have := HV.out; omega]
        exact this
      rw [hws] at c6 c7
      clear k7 HL mk hqm hwl hwm oa ka hqw H7 HQ HV HJ
      go_wp2_with fail
      refine (binsert_in (HR.out.keep HS.out.2.2) _ _ 255 1 _ _ (upC i) [i % 256] (Nat.le_refl _) (Nat.le_refl _) HS.out.1.bytes HS.out.2.1.bytes (Nat.le_refl _) (Nat.le_refl _)).mono ?_
      have hu := HU.out.step hlt
      rw [show upC i ++ [i % 256] = upRow i from rfl, decide_eq_false hu.1]
      rintro e w9 ⟨rfl, F9, r9, f9, t9⟩
      have R9 := Lib.hid r9
      have U9 := Lib.hid hu.2
      have F9' : Hid (∀ x, F9 x → w.heap.size ≤ x) := fun x hx => by
        rcases f9 x hx with h | h
        · exact HF.out x h
        · have := HK.out.size; have := HS.out.2.2.size; omega
      have K9 : Hid (Keep w w9) := t9.keep (HK.out.trans HS.out.2.2) fun k hk => HF.out k hk
      clear hu r9 f9 t9 HR HU HF HK HS c5 f5 c6 c7 hws
      go_wp2_with fail
      go_roundw
      case rel => exact ⟨i + 1, F9, _, by omega, by go_num, R9.out, U9.out, F9'.out, K9.out⟩
      case measure => simp [intOf]; omega
    · obtain rfl : i = 255 := by omega
      obtain ⟨l, hl⟩ : ∃ l, B.length = l := ⟨_, rfl⟩
      have hl5 : l = 255 := by rw [← hl]; exact HU.out.2.1
      have HL5 := Lib.hid (And.intro hl hl5)
      clear hl hl5
      go_wp2_with fail
      refine (bsolve_in HR.out (HL5.out.1.trans HL5.out.2)).mono ?_
      rintro e w7 ⟨A7, c7, rs7, rfl, _, _, _, k7⟩
      have R7 := Lib.hid (HR.out.keep k7)
      have K7 := Lib.hid (HK.out.trans k7)
      clear k7 HR HK
      have mk : (Instr.makeSlice 31 (.int .i64 254) (.int .i64 254)).run Try.prog w7 = .ok (.slice (some ⟨w7.heap.size, 0, none⟩) 254 254) (w7.alloc (.cells (madeCells #[.int .u8 0] 254) 5)) := run_make_bytes (P := Try.prog) Try.underlying31 info5 254 (by omega) w7
      obtain ⟨wm, hwm⟩ : ∃ wm, w7.alloc (.cells (madeCells #[.int .u8 0] 254) 5) = wm := ⟨_, rfl⟩
      have km : Keep w7 (w7.alloc (.cells (madeCells #[.int .u8 0] 254) 5)) := (Keep.refl w7).alloc _ _
      rw [hwm] at mk km
      have kl : Keep wm (wm.alloc (.cells #[.int .u8 1] 5)) := (Keep.refl wm).alloc _ _
      go_wp2_with fail
      refine (rowR_any _ _ 254 1 254 1 _).mono ?_
      rintro e w8 ⟨rfl, k8⟩
      have K8a : Hid (Keep w7 w8) := (km.trans kl).trans k8
      clear k8 km kl mk hwm
      go_wp2_with fail
      refine (binsert_dim (R7.out.keep K8a.out) 254 1 254 1 _ _ (Or.inl (by omega))).mono ?_
      rintro e w9 ⟨rfl, k9⟩
      have R9 := Lib.hid ((R7.out.keep K8a.out).keep k9)
      have K9 := Lib.hid ((K7.out.trans K8a.out).trans k9)
      clear k9 R7 K7 K8a
      have mk : (Instr.makeSlice 31 (.int .i64 255) (.int .i64 255)).run Try.prog w9 = .ok (.slice (some ⟨w9.heap.size, 0, none⟩) 255 255) (w9.alloc (.cells (madeCells #[.int .u8 0] 255) 5)) := run_make_bytes (P := Try.prog) Try.underlying31 info5 255 (by omega) w9
      obtain ⟨wm, hwm⟩ : ∃ wm, w9.alloc (.cells (madeCells #[.int .u8 0] 255) 5) = wm := ⟨_, rfl⟩
      have km : Keep w9 (w9.alloc (.cells (madeCells #[.int .u8 0] 255) 5)) := (Keep.refl w9).alloc _ _
      rw [hwm] at mk km
      go_wp2_with fail
      refine (rowR_any _ _ 255 0 255 0 _).mono ?_
      rintro e w10 ⟨rfl, k10⟩
      have K10a : Hid (Keep w9 w10) := km.trans k10
      clear k10 km mk hwm
      go_wp2_with fail
      refine (binsert_dim (R9.out.keep K10a.out) 255 0 255 0 _ _ (Or.inr (by omega))).mono ?_
      rintro e w11 ⟨rfl, k11⟩
      have R11 := Lib.hid ((R9.out.keep K10a.out).keep k11)
      have K11 := Lib.hid ((K9.out.trans K10a.out).trans k11)
      clear k11 R9 K9 K10a
      go_wp2_with fail
      refine (bcontains_dim R11.out 0 0 none (by omega)).mono ?_
      rintro e w12 ⟨rfl, k12⟩
      have R12 := Lib.hid (R11.out.keep k12)
      have K12 := Lib.hid (K11.out.trans k12)
      clear k12 R11 K11
      go_wp2_with fail
      refine (bcombine_dim R12.out 0 0 none (by have := HL5.out; omega)).mono ?_
      rintro e w13 ⟨rfl, k13⟩
      have R13 := Lib.hid (R12.out.keep k13)
      have K13 := Lib.hid (K12.out.trans k13)
      clear k13 R12 K12
      go_wp2_with fail
      refine (binsert_nil _ _).mono ?_
      rintro e w14 ⟨rfl, k14⟩
      have K14 := Lib.hid ((K13.out.trans ((Keep.refl w13).alloc _ _)).trans k14)
      have R14 := Lib.hid ((R13.out.keep ((Keep.refl w13).alloc _ _)).keep k14)
      have Z14 : Hid (Keep w14 w14) := Keep.refl w14
      clear k14 R13 K13
      go_wp2_with fail
      refine (bcontains_nil _).mono ?_
      rintro e w15 ⟨rfl, k15⟩
      have K15 := Lib.hid (K14.out.trans k15)
      have Z15 := Lib.hid (Z14.out.trans k15)
      clear k15 K14 Z14
      go_wp2_with fail
      refine (bcombine_nil _).mono ?_
      rintro e w16 ⟨rfl, k16⟩
      have K16 := Lib.hid (K15.out.trans k16)
      have Z16 := Lib.hid (Z15.out.trans k16)
      clear k16 K15 Z15
      go_wp2_with fail
      refine (bsolve_nil).mono ?_
      rintro e w17 ⟨rfl, k17⟩
      have K17 := Lib.hid ((K16.out.trans ((Keep.refl w16).alloc _ _)).trans k17)
      have Z17 := Lib.hid ((Z16.out.trans ((Keep.refl w16).alloc _ _)).trans k17)
      clear k17 K16 Z16
      go_wp2_with fail
      refine (brank_any (R14.out.keep Z17.out)).mono ?_
      rw [HL5.out.1, HL5.out.2]
      rintro e w18 ⟨rfl, k18⟩
      have K18 := Lib.hid (K17.out.trans k18)
      clear k18 K17 Z17 R14
      go_wp2_with fail
      refine (brank_nil).mono ?_
      rintro e w19 ⟨rfl, k19⟩
      have K19 := Lib.hid (K18.out.trans k19)
      clear k19 K18
      go_wp2_with fail
      refine (brows_nil).mono ?_
      rintro e w20 ⟨A20, c20, rfl, k20⟩
      have K20 := Lib.hid (K19.out.trans k20)
      clear k20 K19
      go_wp2_with fail
      refine (bcopy_nil).mono ?_
      rintro e w21 ⟨rfl, k21⟩
      have K21 := Lib.hid (K20.out.trans k21)
      clear k21 K20
      go_wp2_with fail
      go_ret
      exact ⟨rfl, K21.out⟩
end Go.Proofs.Yticllkklbogcnaa
