/- The walk of BasisPlays. -/
import Derived.Test.YticllkklbogcnaaPlm
import Derived.Deep.DeepCutAuto
import Derived.Deep.CutBlock
import Derived.StillTailTactics
namespace Go.Proofs.Yticllkklbogcnaa
open Go.RowKit Lin
set_option linter.unusedVariables false
set_option linter.unusedSimpArgs false
set_option maxRecDepth 100000 in
set_option maxHeartbeats 16000000 in
theorem plays_any (gi si : Int) (n c : Nat) (A : Option Addr) (l : List ActV) (w : World) (h : ActsAt w w.heap.size A n l) (hn : n ≤ 140737488351232) :
    Calls Try.prog 3 #[.int .i64 gi, .int .i64 si, .slice A n c] w fun e w' => e = .returned (.bool true) ∧ Keep w w' := by
  have H := Lib.hid h
  clear h
  go_enter Try.func3, Try.ntmps3
  go_wp2_with fail
  refine (awake_any _).mono ?_
  rintro e w1 ⟨rfl, k1⟩
  have K1 := Lib.hid k1
  clear k1
  obtain ⟨tg, htg⟩ : ∃ t, decide (12 < gi ∧ gi ≤ 255) = t := ⟨_, rfl⟩
  obtain ⟨ts, hts⟩ : ∃ t, decide (12 < si ∧ si ≤ 255 * 257) = t := ⟨_, rfl⟩
  have HTG := Lib.hid htg
  have HTS := Lib.hid hts
  clear htg hts
  go_upto_region 3 with fail
  go_cut [44] from 39 to 44 (fun v wx => v = .bool tg ∧ wx = w1)
  case first => as_aux_lemma =>
        by_cases h1 : 12 < gi
        · by_cases h2 : gi ≤ 255
          · obtain rfl : tg = true := by rw [← HTG.out]; exact decide_eq_true ⟨h1, h2⟩
            have d1 : decide (12 < gi) = true := decide_eq_true h1
            have d2 : decide (gi ≤ 255) = true := decide_eq_true h2
            go_wp2_with fail
            go_meet
            case rel => exact ⟨rfl, rfl⟩
          · obtain rfl : tg = false := by rw [← HTG.out]; exact decide_eq_false fun e => h2 e.2
            have d1 : decide (12 < gi) = true := decide_eq_true h1
            have d2 : decide (gi ≤ 255) = false := decide_eq_false h2
            have d3 : 255 < gi := by omega
            go_wp2_with fail
            go_meet
            case rel => exact ⟨rfl, rfl⟩
        · obtain rfl : tg = false := by rw [← HTG.out]; exact decide_eq_false fun e => h1 e.1
          have d1 : decide (12 < gi) = false := decide_eq_false h1
          go_wp2_with fail
          go_meet
          case rel => exact ⟨rfl, rfl⟩
  case rest =>
    obtain ⟨rfl, rfl⟩ := hcut
    obtain ⟨gg, hgg⟩ : ∃ gg, (if tg = true then 1 + gi % 12 else gi) = gg := ⟨_, rfl⟩
    have HGG := Lib.hid hgg
    clear hgg
    go_upto_if 44 with fail
    go_cut [0] from 45 to 47 (fun v wx => v = .int .i64 gg ∧ wx = wc)
    case first => as_aux_lemma =>
          cases tg with
          | true =>
            have hr := of_decide_eq_true HTG.out
            have hgg := HGG.out
            rw [if_pos rfl] at hgg
            have d1 : gi.tmod 12 = gi % 12 := Int.tmod_eq_emod_of_nonneg (by omega)
            have d2 : IntKind.i64.wrap (gi % 12) = gi % 12 := IntWalk.i64_in _ (by omega)
            have d3 : IntKind.i64.wrap (1 + gi % 12) = 1 + gi % 12 := IntWalk.i64_in _ (by omega)
            have d4 : IntKind.i64.wrap gi = gi := IntWalk.i64_in _ (by omega)
            clear hr
            go_wp2_with fail
            go_meet
            case rel => exact ⟨rfl, rfl⟩
          | false =>
            have hgg := HGG.out
            rw [if_neg (by decide)] at hgg
            subst hgg
            go_wp2_with fail
            go_meet
            case rel => exact ⟨rfl, rfl⟩
    case rest =>
      obtain ⟨rfl, rfl⟩ := hcut
      obtain ⟨wo, rfl⟩ : ∃ wo, wo = wc := ⟨_, rfl⟩
      go_upto_region 5 with fail
      go_cut [53] from 48 to 53 (fun v wx => v = .bool ts ∧ wx = wo)
      case first => as_aux_lemma =>
            by_cases h1 : 12 < si
            · by_cases h2 : si ≤ 255 * 257
              · obtain rfl : ts = true := by rw [← HTS.out]; exact decide_eq_true ⟨h1, h2⟩
                have d1 : decide (12 < si) = true := decide_eq_true h1
                have d2 : decide (si ≤ 65535) = true := decide_eq_true (by omega)
                have d3 : si ≤ 65535 := by omega
                go_wp2_with fail
                go_meet
                case rel => exact ⟨rfl, rfl⟩
              · obtain rfl : ts = false := by rw [← HTS.out]; exact decide_eq_false fun e => h2 e.2
                have d1 : decide (12 < si) = true := decide_eq_true h1
                have d2 : decide (si ≤ 65535) = false := decide_eq_false (by omega)
                have d3 : 65535 < si := by omega
                go_wp2_with fail
                go_meet
                case rel => exact ⟨rfl, rfl⟩
            · obtain rfl : ts = false := by rw [← HTS.out]; exact decide_eq_false fun e => h1 e.1
              have d1 : decide (12 < si) = false := decide_eq_false h1
              go_wp2_with fail
              go_meet
              case rel => exact ⟨rfl, rfl⟩
      case rest =>
        obtain ⟨rfl, rfl⟩ := hcut
        obtain ⟨ss, hss⟩ : ∃ ss, (if ts = true then 1 + si % 12 else si) = ss := ⟨_, rfl⟩
        have HSS := Lib.hid hss
        clear hss
        go_upto_if 53 with fail
        go_cut [1] from 54 to 56 (fun v wx => v = .int .i64 ss ∧ wx = wc)
        case first => as_aux_lemma =>
              cases ts with
              | true =>
                have hr := of_decide_eq_true HTS.out
                have hss := HSS.out
                rw [if_pos rfl] at hss
                have d1 : si.tmod 12 = si % 12 := Int.tmod_eq_emod_of_nonneg (by omega)
                have d2 : IntKind.i64.wrap (si % 12) = si % 12 := IntWalk.i64_in _ (by omega)
                have d3 : IntKind.i64.wrap (1 + si % 12) = 1 + si % 12 := IntWalk.i64_in _ (by omega)
                have d4 : IntKind.i64.wrap si = si := IntWalk.i64_in _ (by omega)
                clear hr
                go_wp2_with fail
                go_meet
                case rel => exact ⟨rfl, rfl⟩
              | false =>
                have hss := HSS.out
                rw [if_neg (by decide)] at hss
                subst hss
                go_wp2_with fail
                go_meet
                case rel => exact ⟨rfl, rfl⟩
        case rest =>
          obtain ⟨rfl, rfl⟩ := hcut
          obtain ⟨wo, rfl⟩ : ∃ wo, wo = wc := ⟨_, rfl⟩
          by_cases hout : gg < 1 ∨ 255 < gg ∨ ss < 1 ∨ 65535 < ss
          · as_aux_lemma =>
                have HO := Lib.hid hout
                clear hout
                go_wp2_with fail
                refine (bnew_out gg ss HO.out _).mono ?_
                rintro e w2 ⟨rfl, k2⟩
                have K2 := Lib.hid (K1.out.trans k2)
                clear k2
                go_wp2_with fail
                refine (rpnew_out gg ss HO.out _).mono ?_
                rintro e w3 ⟨rfl, k3⟩
                have K3 := Lib.hid (K2.out.trans k3)
                clear k3
                go_wp2_with fail
                go_ret
                exact ⟨rfl, K3.out⟩
          · have hg12 : ∃ g : Nat, gg = (g : Int) ∧ 1 ≤ g ∧ g ≤ 12 := by
              have e1 := HTG.out
              have e2 := HGG.out
              cases tg with
              | true =>
                rw [if_pos rfl] at e2
                have := of_decide_eq_true e1
                exact ⟨gg.toNat, by omega, by omega, by omega⟩
              | false =>
                rw [if_neg (by decide)] at e2
                have := of_decide_eq_false e1
                exact ⟨gg.toNat, by omega, by omega, by omega⟩
            have hs12 : ∃ s : Nat, ss = (s : Int) ∧ 1 ≤ s ∧ s ≤ 12 := by
              have e1 := HTS.out
              have e2 := HSS.out
              cases ts with
              | true =>
                rw [if_pos rfl] at e2
                have := of_decide_eq_true e1
                exact ⟨ss.toNat, by omega, by omega, by omega⟩
              | false =>
                rw [if_neg (by decide)] at e2
                have := of_decide_eq_false e1
                exact ⟨ss.toNat, by omega, by omega, by omega⟩
            obtain ⟨g, rfl, g1, g2⟩ := hg12
            obtain ⟨s, rfl, s1, s2⟩ := hs12
            have HGS : Hid (1 ≤ g ∧ g ≤ 12 ∧ 1 ≤ s ∧ s ≤ 12) := ⟨g1, g2, s1, s2⟩
            clear hout HTG HTS HGG HSS
            go_wp2_with fail
            refine (bnew_in g s g1 (by omega) s1 (by omega) _).mono ?_
            rintro e w2 ⟨pb, Fb, rfl, r2, f2, k2⟩
            have R2 := Lib.hid r2
            have F2 := Lib.hid f2
            have K2 := Lib.hid k2
            clear r2 f2 k2
            go_wp2_with fail
            refine (rpnew_in g s g1 (by omega) s1 (by omega) _).mono ?_
            rintro e w3 ⟨rb, bi, br, Fr, rfl, r3, f3, k3⟩
            have P0 : Hid (PlayM w w3 g s pb rb bi br [] (List.replicate g false) (List.replicate g PairV.zero) Fb Fr (fun _ => False) w) := by
              have h1 := K1.out.size
              have h2 := K2.out.size
              exact ⟨R2.out.keep k3, r3, fun x hx e => by have h3 := R2.out.fine.2.2.2.2.2 x hx; have h4 := f3 x e; omega, fun x hx => by have := F2.out x hx; omega, fun x hx => by have := f3 x hx; omega, fun x hx => hx.elim, (K1.out.trans K2.out).trans k3⟩
            have S0 : Hid (Slots g s (List.replicate g false) (List.replicate g PairV.zero) []) := Slots.none g s PairV.zero
            clear r3 f3 k3 R2 F2 K2
            go_wp2_with fail
            go_loopw [7, 83] (fun bv iv wr => ∃ (k pb : Nat) (B : List (List Nat)) (iw : List Bool) (R : List PairV) (Fb Fr : Nat → Prop), bv = .pointer (some ⟨pb, 0, none⟩) ∧ k ≤ n ∧ iv = .int .i64 k ∧ PlayM w wr g s pb rb bi br B iw R Fb Fr (fun _ => False) w ∧ Slots g s iw R B) (fun _ iv _ => n - (intOf iv).toNat)
            case atStart => exact ⟨0, pb, [], _, _, Fb, Fr, rfl, by omega, rfl, P0.out, S0.out⟩
            case round =>
              clear P0 S0 K1
              obtain ⟨k, pb, B, iw, R, Fb, Fr, rfl, hk, rfl, hP, hS⟩ := hrel
              have HP := Lib.hid hP
              have HS := Lib.hid hS
              clear hP hS
              by_cases hlt : k < n
              · obtain ⟨b0, off, a, rfl, hb0, ha, ca0, ca1, ca2, ca3⟩ := (H.out.keep (Nat.le_refl _) HP.out.keep).at_ hlt
                have HA := Lib.hid (H.out.2.1 a (List.mem_of_getElem? ha))
                obtain ⟨what, ⟨⟨A1, n1, c1, x1⟩, ⟨A2, n2, c2, x2⟩⟩, ⟨A3, n3, c3, x3⟩⟩ := a
                simp only at ca0 ca1 ca2 ca3
                have e1 : (0 : Int) ≤ (k : Int) := Int.natCast_nonneg _
                have e2 : (k : Int) < (n : Int) := by omega
                clear ha hb0
                by_cases h60 : k = 60
                · as_aux_lemma =>
                      have b0 : ((k : Int) == 60) = true := beq_iff_eq.2 (by omega)
                      have HK : Hid (Keep w wr) := HP.out.keep
                      clear h60
                      go_wp2_with fail
                      go_ret
                      exact ⟨rfl, HK.out.alloc _ _⟩
                · have b0' : ((k : Int) == 60) = false := beq_eq_false_iff_ne.2 (by omega)
                  have HLT : Hid (k < n) := hlt
                  clear h60 hlt
                  obtain ⟨m1, hm1⟩ : ∃ m, min n1 13 = m := ⟨_, rfl⟩
                  obtain ⟨m2, hm2⟩ : ∃ m, min n2 13 = m := ⟨_, rfl⟩
                  obtain ⟨q, hq⟩ : ∃ q, wr.heap.size = q := ⟨_, rfl⟩
                  have HM : Hid (m1 ≤ n1 ∧ m2 ≤ n2 ∧ m1 ≤ 13 ∧ m2 ≤ 13) := by show _ ∧ _; omega
                  have HMM := Lib.hid (And.intro hm1 hm2)
                  have HQ := Lib.hid hq
                  have KA : Hid (Keep wr (wr.alloc (.cells #[.int .i64 what, .slice A1 n1 c1, .slice A2 n2 c2, .slice A3 n3 c3] 35))) := (Keep.refl wr).alloc _ _
                  have HQA : Hid ((wr.alloc (.cells #[.int .i64 what, .slice A1 n1 c1, .slice A2 n2 c2, .slice A3 n3 c3] 35)).heap[q]? = some (.cells #[.int .i64 what, .slice A1 n1 c1, .slice A2 n2 c2, .slice A3 n3 c3] 35 (0, 0))) := by show _ = _; rw [← hq]; exact heap_alloc_new _ _
                  clear hm1 hm2
                  go_upto_region 17 with fail
                  clear ca0 ca1 ca2 ca3 hq
                  generalize (wr.alloc (.cells #[.int .i64 what, .slice A1 n1 c1, .slice A2 n2 c2, .slice A3 n3 c3] 35)) = wa at *
                  go_cut [] from 90 to 111 (fun wx => Keep wr wx ∧ wx.heap[q]? = some (.cells #[.int .i64 what, .slice A1 m1 c1, .slice A2 m2 c2, .slice A3 n3 c3] 35 (0, 0)))
                  case first => as_aux_lemma =>
                        have hmin1 := run_min13 n1 m1 HMM.out.1
                        have hmin2 := run_min13 n2 m2 HMM.out.2
                        have y1 : wa.cell? ⟨q, 1, none⟩ = some (.slice A1 n1 c1) := cell_of_row _ _ _ _ _ _ HQA.out
                        have y2 : wa.cell? ⟨q, 2, none⟩ = some (.slice A2 n2 c2) := cell_of_row _ _ _ _ _ _ HQA.out
                        have f1 : wa.frozen? ⟨q, 1, none⟩ = false := by simp [World.frozen?, HQA.out]
                        have f2 : wa.frozen? ⟨q, 2, none⟩ = false := by simp [World.frozen?, HQA.out]
                        have l1 := HA.out.1.2.2
                        have l2 := HA.out.2.1.2.2
                        simp only at l1 l2
                        have d1 : (m1 : Int) ≤ (c1 : Int) := by have := HM.out; omega
                        have d2 : (m2 : Int) ≤ (c2 : Int) := by have := HM.out; omega
                        have d3 : (0 : Int) ≤ (m1 : Int) := Int.natCast_nonneg _
                        have d4 : (0 : Int) ≤ (m2 : Int) := Int.natCast_nonneg _
                        clear l1 l2
                        go_region
                        all_goals
                          go_wp2_with fail
                          go_meet
                          case rel =>
                            have hb := bset (i := 2) (bset (i := 1) HQA.out (.slice A1 m1 c1)) (.slice A2 m2 c2)
                            have hb' := bset (i := 1) (bset (i := 2) HQA.out (.slice A2 m2 c2)) (.slice A1 m1 c1)
                            have hqq : wr.heap.size ≤ q := Nat.le_of_eq HQ.out
                            first
                              | exact ⟨((KA.out.setCell (a := ⟨q, 1, none⟩) hqq _).setCell (a := ⟨q, 2, none⟩) hqq _).drew, hb⟩
                              | exact ⟨((KA.out.setCell (a := ⟨q, 2, none⟩) hqq _).setCell (a := ⟨q, 1, none⟩) hqq _).drew, hb'⟩
                              | exact ⟨((KA.out.setCell (a := ⟨q, 1, none⟩) hqq _).setCell (a := ⟨q, 2, none⟩) hqq _), hb⟩
                              | exact ⟨((KA.out.setCell (a := ⟨q, 2, none⟩) hqq _).setCell (a := ⟨q, 1, none⟩) hqq _), hb'⟩
                  case rest =>
                    obtain ⟨kc, hbx⟩ := hcut
                    have HBX := Lib.hid hbx
                    have KC := Lib.hid kc
                    have hql : q < wc.heap.size := (Array.getElem?_eq_some_iff.1 hbx).1
                    have HP2 : Hid (PlayM w wc g s pb rb bi br B iw R Fb Fr (fun x => x = q) wc) := HP.out.reQ kc fun x hx => Or.inr ⟨by rw [hx, HQ.out]; exact Nat.le_refl _, by rw [hx]; exact hql⟩
                    have HV1 : Hid (Bytes w w.heap.size A1 m1 (x1.take m1) ∧ m1 ≤ c1) := ⟨HA.out.1.1.cut HM.out.1, by have h1 := HA.out.1.2.2; have h2 := HM.out; simp only at h1; omega⟩
                    have HV2 : Hid (Bytes w w.heap.size A2 m2 (x2.take m2) ∧ m2 ≤ c2) := ⟨HA.out.2.1.1.cut HM.out.2.1, by have h1 := HA.out.2.1.2.2; have h2 := HM.out; simp only at h1; omega⟩
                    have HV3 : Hid (Bytes w w.heap.size A3 n3 x3 ∧ n3 ≤ c3) := ⟨HA.out.2.2.1, HA.out.2.2.2.2⟩
                    obtain ⟨y1, hy1⟩ : ∃ y, x1.take m1 = y := ⟨_, rfl⟩
                    obtain ⟨y2, hy2⟩ : ∃ y, x2.take m2 = y := ⟨_, rfl⟩
                    rw [hy1] at HV1
                    rw [hy2] at HV2
                    have z0 : wc.cell? ⟨q, 0, none⟩ = some (.int .i64 what) := cell_of_row _ _ _ _ _ _ HBX.out
                    have z1 : wc.cell? ⟨q, 1, none⟩ = some (.slice A1 m1 c1) := cell_of_row _ _ _ _ _ _ HBX.out
                    have z2 : wc.cell? ⟨q, 2, none⟩ = some (.slice A2 m2 c2) := cell_of_row _ _ _ _ _ _ HBX.out
                    have z3 : wc.cell? ⟨q, 3, none⟩ = some (.slice A3 n3 c3) := cell_of_row _ _ _ _ _ _ HBX.out
                    clear kc hbx hql hy1 hy2 HQA KA HA HMM HP
                    obtain ⟨w2, rfl⟩ : ∃ w2, w2 = wc := ⟨_, rfl⟩
                    go_upto_block 2 with fail
                    go_cut [7, 13, 14, 15, 16, 17, 18, 19, 20, 21, 22, 23, 24, 25, 26, 27, 28, 29, 30, 31, 32, 33] from 112 to 283 (fun bv _ _ _ _ _ _ _ _ _ _ _ _ _ _ _ _ _ _ _ _ _ wx => ∃ (pb : Nat) (B : List (List Nat)) (iw : List Bool) (R : List PairV) (Fb Fr : Nat → Prop), bv = .pointer (some ⟨pb, 0, none⟩) ∧ PlayM w wx g s pb rb bi br B iw R Fb Fr (fun _ => False) w ∧ Slots g s iw R B)
                    case first =>
                      by_cases h0 : what = 0
                      · as_aux_lemma =>
                            subst h0
                            clear z3
                            have hq1 := (HP2.out.q q rfl).1
                            go_wp2_with fail
                            refine (rrown_any ⟨⟨A1, m1, c1, y1⟩, ⟨A2, m2, c2, y2⟩⟩ _ ⟨(HV1.out.1.keep (Nat.le_refl _) HP2.out.keep).mono HP2.out.keep.size, (HV2.out.1.keep (Nat.le_refl _) HP2.out.keep).mono HP2.out.keep.size, by have := HM.out; show m1 ≤ _; omega, by have := HM.out; show m2 ≤ _; omega⟩).mono ?_
                            rintro e w3 ⟨⟨⟨A5, n5, c5, x5⟩, ⟨A6, n6, c6, x6⟩⟩, he, hC⟩
                            obtain rfl : n5 = m1 := hC.an
                            obtain rfl : n6 = m2 := hC.bn
                            obtain rfl : x5 = y1 := hC.ax
                            obtain rfl : x6 = y2 := hC.bx
                            replace he : e = .returned (.agg #[.slice A5 n5 c5, .slice A6 n6 c6]) := he
                            subst he
                            have kp : Keep w3 (w3.alloc (.cells #[.slice A5 n5 c5, .slice A6 n6 c6] 33)) := (Keep.refl w3).alloc _ _
                            obtain ⟨q2, hq2⟩ : ∃ q2, w3.heap.size = q2 := ⟨_, rfl⟩
                            have hbq : (w3.alloc (.cells #[.slice A5 n5 c5, .slice A6 n6 c6] 33)).heap[q2]? = some (.cells #[.slice A5 n5 c5, .slice A6 n6 c6] 33 (0, 0)) := by rw [← hq2]; exact heap_alloc_new _ _
                            have M4 : Hid (PlayM w (w3.alloc (.cells #[.slice A5 n5 c5, .slice A6 n6 c6] 33)) g s pb rb bi br B iw R Fb Fr (fun x => x = q ∨ x = q2) (w3.alloc (.cells #[.slice A5 n5 c5, .slice A6 n6 c6] 33))) := HP2.out.reQ (hC.keep.trans kp) fun x hx => by
                              rcases hx with e | e
                              · exact Or.inl e
                              · exact Or.inr ⟨by have := hC.keep.size; omega, by simp; omega⟩
                            have O4 := Lib.hid (And.intro (hC.a.keep kp) (hC.b.keep kp))
                            have HX : Hid (∀ x, ((Value.slice A5 n5 c5).ownBlock = some x ∨ (Value.slice A6 n6 c6).ownBlock = some x) → w2.heap.size ≤ x ∧ x < q2) := fun x hx => by
                              rcases hx with e | e
                              · have := hC.a.1.lt x e; rw [hq2] at this; exact this
                              · have := hC.b.1.lt x e; rw [hq2] at this; exact this
                            have HQ1 : Hid ((w3.alloc (.cells #[.slice A5 n5 c5, .slice A6 n6 c6] 33)).heap[q]? = some (.cells #[.int .i64 0, .slice A1 n5 c1, .slice A2 n6 c2, .slice A3 n3 c3] 35 (0, 0))) := ((hC.keep.trans kp).block q hq1).trans HBX.out
                            have HQ2 := Lib.hid hbq
                            have HSZ : Hid (q2 < (w3.alloc (.cells #[.slice A5 n5 c5, .slice A6 n6 c6] 33)).heap.size ∧ q < w2.heap.size) := ⟨by show _ < _; rw [← hq2]; simp, hq1⟩
                            clear hC kp hbq z1 z2
                            obtain ⟨w4, hw4⟩ : ∃ w4, w3.alloc (.cells #[.slice A5 n5 c5, .slice A6 n6 c6] 33) = w4 := ⟨_, rfl⟩
                            rw [hw4] at M4 O4 HQ1 HQ2 HSZ
                            have p0 : w4.cell? ⟨q2, 0, none⟩ = some (.slice A5 n5 c5) := cell_of_row _ _ _ _ _ _ HQ2.out
                            have p1 : w4.cell? ⟨q2, 1, none⟩ = some (.slice A6 n6 c6) := cell_of_row _ _ _ _ _ _ HQ2.out
                            go_upto_region 21 with fail
                            clear hw4 hq2
                            go_cut [14, 15] from 119 to 124 (fun u14 u15 wx => ∃ (tt : Bool) (er : Int) (B5 : List (List Nat)) (F5 : Nat → Prop), u14 = .bool tt ∧ u15 = .int .i64 er ∧ PlayM w wx g s pb rb bi br B5 iw R F5 Fr (fun x => x = q ∨ x = q2) w4 ∧ Mine w2 wx A5 n5 c5 ∧ Mine w2 wx A6 n6 c6 ∧ (∀ x, ((Value.slice A5 n5 c5).ownBlock = some x ∨ (Value.slice A6 n6 c6).ownBlock = some x) → ¬ F5 x ∧ ¬ Fr x) ∧ ((n5 = g ∧ n6 = s ∧ (!decide (inB g s B (x5 ++ x6))) = tt ∧ er = 0 ∧ insB g s B (x5 ++ x6) = B5) ∨ (¬ (n5 = g ∧ n6 = s) ∧ tt = false ∧ er = 21 ∧ B5 = B)))
                            case first =>
                              by_cases hd : n5 = g ∧ n6 = s
                              · obtain ⟨rfl, rfl⟩ := hd
                                go_wp2_with fail
                                refine (binsert_in M4.out.bas _ _ c5 c6 A5 A6 x5 x6 (own_le' O4.out.1) (own_le' O4.out.2) O4.out.1.bytes O4.out.2.bytes (Nat.le_refl _) (Nat.le_refl _)).mono ?_
                                rintro e w5 ⟨rfl, F5, r5, f5, t5⟩
                                obtain ⟨tt, htt⟩ : ∃ tt, (!decide (inB n5 n6 B (x5 ++ x6))) = tt := ⟨_, rfl⟩
                                rw [htt]
                                have M5 := Lib.hid (M4.out.putB r5 f5 t5)
                                have hnb : ∀ x, ((Value.slice A5 n5 c5).ownBlock = some x ∨ (Value.slice A6 n6 c6).ownBlock = some x) → ¬ Fb x ∧ ¬ Fr x := fun x hx => by
                                  have h1 := HX.out x hx
                                  exact ⟨fun e => by have := HP2.out.fb x e; omega, fun e => by have := HP2.out.ref.lt x e; omega⟩
                                have O5 : Hid (Own w5 w2.heap.size 5 A5 n5 c5 x5 ∧ Own w5 w2.heap.size 5 A6 n6 c6 x6) := ⟨O4.out.1.turned t5 fun x hx e => (hnb x (Or.inl hx)).1 e, O4.out.2.turned t5 fun x hx e => (hnb x (Or.inr hx)).1 e⟩
                                have HN5 : Hid (∀ x, ((Value.slice A5 n5 c5).ownBlock = some x ∨ (Value.slice A6 n6 c6).ownBlock = some x) → ¬ F5 x ∧ ¬ Fr x) := fun x hx => ⟨fun e => by
                                  have h1 := HX.out x hx
                                  have h2 := HSZ.out
                                  rcases f5 x e with e2 | e2
                                  · exact (hnb x hx).1 e2
                                  · omega, (hnb x hx).2⟩
                                have HTT := Lib.hid htt
                                clear r5 f5 t5 hnb htt p0 p1
                                go_wp2_with fail
                                go_meet
                                case rel => exact ⟨tt, 0, _, F5, rfl, rfl, M5.out, ⟨_, O5.out.1⟩, ⟨_, O5.out.2⟩, HN5.out, Or.inl ⟨by trivial, by trivial, HTT.out, by trivial, by trivial⟩⟩
                              · go_wp2_with fail
                                refine (binsert_dim M4.out.bas n5 n6 c5 c6 A5 A6 (by omega)).mono ?_
                                rintro e w5 ⟨rfl, k5⟩
                                have M5 := Lib.hid (M4.out.later k5)
                                have O5 := Lib.hid (And.intro (O4.out.1.keep k5) (O4.out.2.keep k5))
                                have HN5 : Hid (∀ x, ((Value.slice A5 n5 c5).ownBlock = some x ∨ (Value.slice A6 n6 c6).ownBlock = some x) → ¬ Fb x ∧ ¬ Fr x) := fun x hx => by
                                  have h1 := HX.out x hx
                                  exact ⟨fun e => by have := HP2.out.fb x e; omega, fun e => by have := HP2.out.ref.lt x e; omega⟩
                                have HND := Lib.hid hd
                                clear k5 p0 p1 hd
                                go_wp2_with fail
                                go_meet
                                case rel => exact ⟨false, 21, B, Fb, rfl, rfl, M5.out, ⟨_, O5.out.1⟩, ⟨_, O5.out.2⟩, HN5.out, Or.inr ⟨HND.out, rfl, rfl, rfl⟩⟩
                            case rest =>
                              obtain ⟨tt, er, B5, F5, rfl, rfl, hM, hm5, hm6, hN, hor⟩ := hcut
                              have M5 := Lib.hid hM
                              have HN5 := Lib.hid hN
                              have O5 := Lib.hid (And.intro hm5 hm6)
                              have hsz5 : q2 < wc.heap.size := (hM.q q2 (Or.inr rfl)).1
                              have b5 : wc.heap[q]? = some (.cells #[.int .i64 0, .slice A1 n5 c1, .slice A2 n6 c2, .slice A3 n3 c3] 35 (0, 0)) := (hM.q q (Or.inl rfl)).2.2.2.trans HQ1.out
                              have z1 : wc.cell? ⟨q, 1, none⟩ = some (.slice A1 n5 c1) := cell_of_row _ _ _ _ _ _ b5
                              have z2 : wc.cell? ⟨q, 2, none⟩ = some (.slice A2 n6 c2) := cell_of_row _ _ _ _ _ _ b5
                              have HW5 : Hid (q2 < wc.heap.size) := hsz5
                              clear hM hN hm5 hm6 b5 hsz5 p0 p1
                              obtain ⟨w5, rfl⟩ : ∃ w5, w5 = wc := ⟨_, rfl⟩
                              go_upto_region 22 with fail
                              go_cut [16, 17] from 125 to 131 (fun u16 u17 wx => ∃ (iw : List Bool) (R : List PairV) (Fr : Nat → Prop), u16 = .bool tt ∧ u17 = .int .i64 er ∧ PlayM w wx g s pb rb bi br B5 iw R F5 Fr (fun x => x = q ∨ x = q2) w4 ∧ Slots g s iw R B5 ∧ Mine w2 wx A5 n5 c5 ∧ Mine w2 wx A6 n6 c6 ∧ (∀ x, ((Value.slice A5 n5 c5).ownBlock = some x ∨ (Value.slice A6 n6 c6).ownBlock = some x) → ¬ F5 x ∧ ¬ Fr x))
                              case first =>
                                rcases hor with ⟨rfl, rfl, htt, rfl, rfl⟩ | ⟨hd, rfl, rfl, rfl⟩
                                · have HTT := Lib.hid htt
                                  clear htt
                                  go_wp2_with fail
                                  refine (rpinsert_in (G := fun x => x < w.heap.size) M5.out.ref HS.out HP2.out.bas.fine.1 ⟨⟨A1, n5, c1, x5⟩, ⟨A2, n6, c2, x6⟩⟩ ⟨LiesIn.of_bytes (r := ⟨A1, n5, c1, x5⟩) (HV1.out.1.keep (Nat.le_refl _) M5.out.keep) HV1.out.2, LiesIn.of_bytes (r := ⟨A2, n6, c2, x6⟩) (HV2.out.1.keep (Nat.le_refl _) M5.out.keep) HV2.out.2, rfl, rfl⟩ (fun x hx => Nat.lt_of_lt_of_le hx M5.out.keep.size) HGS.out.1 (by have := HGS.out; omega) (by have := HGS.out; omega)).mono ?_
                                  have htt2 : (!decide (inB n5 n6 B (PairV.xs ⟨⟨A1, n5, c1, x5⟩, ⟨A2, n6, c2, x6⟩⟩))) = tt := HTT.out
                                  rw [htt2]
                                  rintro e w6 ⟨rfl, F6, iv6, R6, r6, s6, f6, t6⟩
                                  have M6 := Lib.hid (M5.out.putR r6 f6 t6)
                                  have S6 : Hid (Slots n5 n6 iv6 R6 (insB n5 n6 B (x5 ++ x6))) := s6
                                  have O6 : Hid (Mine w2 w6 A5 n5 c5 ∧ Mine w2 w6 A6 n6 c6) := by
                                    obtain ⟨⟨xa, ha⟩, ⟨xb, hb⟩⟩ := O5.out
                                    exact ⟨⟨xa, ha.turned t6 fun x hx e => (HN5.out x (Or.inl hx)).2 e⟩, ⟨xb, hb.turned t6 fun x hx e => (HN5.out x (Or.inr hx)).2 e⟩⟩
                                  have HN6 : Hid (∀ x, ((Value.slice A5 n5 c5).ownBlock = some x ∨ (Value.slice A6 n6 c6).ownBlock = some x) → ¬ F5 x ∧ ¬ F6 x) := fun x hx => ⟨(HN5.out x hx).1, fun e => by
                                    have h1 := HX.out x hx
                                    have h3 := HW5.out
                                    rcases f6 x e with e2 | e2
                                    · exact (HN5.out x hx).2 e2
                                    · omega⟩
                                  clear r6 s6 f6 t6 z1 z2 htt2
                                  go_wp2_with fail
                                  go_meet
                                  case rel => exact ⟨iv6, R6, F6, rfl, rfl, M6.out, S6.out, O6.out.1, O6.out.2, HN6.out⟩
                                · have HND := Lib.hid hd
                                  clear hd
                                  go_wp2_with fail
                                  refine (rpinsert_dim M5.out.ref n5 n6 c1 c2 A1 A2 (by have := HND.out; omega)).mono ?_
                                  rintro e w6 ⟨rfl, k6⟩
                                  have M6 := Lib.hid (M5.out.later k6)
                                  have O6 : Hid (Mine w2 w6 A5 n5 c5 ∧ Mine w2 w6 A6 n6 c6) := by
                                    obtain ⟨⟨xa, ha⟩, ⟨xb, hb⟩⟩ := O5.out
                                    exact ⟨⟨xa, ha.keep k6⟩, ⟨xb, hb.keep k6⟩⟩
                                  clear k6 z1 z2
                                  go_wp2_with fail
                                  go_meet
                                  case rel => exact ⟨iw, R, Fr, rfl, rfl, M6.out, HS.out, O6.out.1, O6.out.2, HN5.out⟩
                              case rest =>
                                obtain ⟨iw, R, Fr, rfl, rfl, hM, hS, hm5, hm6, hN⟩ := hcut
                                clear hor HN5 O5 M5 HW5
                                have HM4 := Lib.hid hM
                                have HS4 := Lib.hid hS
                                have HN4 := Lib.hid hN
                                have H5 := Lib.hid (And.intro hm5 hm6)
                                have hbe : (er != er) = false := by simp
                                have v0 : wc.cell? ⟨q2, 0, none⟩ = some (.slice A5 n5 c5) := cell_of_row _ _ _ _ _ _ ((hM.q q2 (Or.inr rfl)).2.2.2.trans HQ2.out)
                                clear hM hS hN hm5 hm6 z1 z2
                                go_wp2_with fail
                                clear v0
                                go_loopw [135] (fun i wz => ∃ r : Nat, r ≤ n5 ∧ i = .int .i64 r ∧ Mine w2 wz A5 n5 c5 ∧ Mine w2 wz A6 n6 c6 ∧ PlayM w wz g s pb rb bi br B5 iw R F5 Fr (fun x => x = q ∨ x = q2) w4) (fun i _ => n5 - (intOf i).toNat)
                                case atStart => exact ⟨0, by omega, rfl, H5.out.1, H5.out.2, HM4.out⟩
                                case round =>
                                  clear HM4 H5
                                  obtain ⟨r, hr, rfl, h5, h6, hM⟩ := hrel
                                  by_cases hlt2 : r < n5
                                  · have v0 : wr.cell? ⟨q2, 0, none⟩ = some (.slice A5 n5 c5) := cell_of_row _ _ _ _ _ _ ((hM.q q2 (Or.inr rfl)).2.2.2.trans HQ2.out)
                                    obtain ⟨g2, v, rfl, hg, hv, hc, hf⟩ := h5.at_ hlt2
                                    obtain ⟨u, hu⟩ : ∃ u, v ^^^ 255 = u := ⟨_, rfl⟩
                                    obtain ⟨hxor, hu2⟩ := flip_int v u hv hu
                                    have H3 := Lib.hid (h5.set g2 r u hu2)
                                    have H6 := Lib.hid (h6.set g2 r u hu2)
                                    have H4 := Lib.hid (hM.other (G := fun x => x = g2) (Turned.set (F := fun x => x = g2) _ ⟨g2, r, none⟩ (.int .u8 (u : Int)) rfl) (fun x e => by
                                      subst e
                                      have h1 := HX.out x (Or.inl rfl)
                                      have h2 := HN4.out x (Or.inl rfl)
                                      have h3 := HP2.out.keep.size
                                      have h4 := HSZ.out
                                      exact ⟨by omega, h2.1, h2.2, by omega⟩))
                                    have e3 : (0 : Int) ≤ (r : Int) := Int.natCast_nonneg _
                                    have e4 : (r : Int) < (n5 : Int) := by omega
                                    have em : n5 ≤ 13 := HM.out.2.2.1
                                    have HLT2 : Hid (r < n5) := hlt2
                                    clear h5 h6 hM hu hlt2
                                    go_wp2_with fail
                                    go_roundw
                                    case rel => exact ⟨r + 1, by have := HLT2.out; omega, by go_num, H3.out, H6.out, H4.out⟩
                                    case measure => have := HLT2.out; simp [intOf]; omega
                                  · obtain rfl : r = n5 := by omega
                                    have HM4 := Lib.hid hM
                                    have H5 := Lib.hid (And.intro h5 h6)
                                    have v1 : wr.cell? ⟨q2, 1, none⟩ = some (.slice A6 n6 c6) := cell_of_row _ _ _ _ _ _ ((hM.q q2 (Or.inr rfl)).2.2.2.trans HQ2.out)
                                    clear h5 h6 hM hlt2
                                    go_wp2_with fail
                                    clear v1
                                    go_loopw [149] (fun i wz => ∃ t : Nat, t ≤ n6 ∧ i = .int .i64 t ∧ Mine w2 wz A6 n6 c6 ∧ PlayM w wz g s pb rb bi br B5 iw R F5 Fr (fun x => x = q ∨ x = q2) w4) (fun i _ => n6 - (intOf i).toNat)
                                    case atStart => exact ⟨0, by omega, rfl, H5.out.2, HM4.out⟩
                                    case round =>
                                      clear HM4 H5
                                      obtain ⟨t, ht, rfl, h6, hM⟩ := hrel
                                      by_cases hlt3 : t < n6
                                      · have v1 : wr.cell? ⟨q2, 1, none⟩ = some (.slice A6 n6 c6) := cell_of_row _ _ _ _ _ _ ((hM.q q2 (Or.inr rfl)).2.2.2.trans HQ2.out)
                                        obtain ⟨g2, v, rfl, hg, hv, hc, hf⟩ := h6.at_ hlt3
                                        obtain ⟨u, hu⟩ : ∃ u, v ^^^ 255 = u := ⟨_, rfl⟩
                                        obtain ⟨hxor, hu2⟩ := flip_int v u hv hu
                                        have H6 := Lib.hid (h6.set g2 t u hu2)
                                        have H4 := Lib.hid (hM.other (G := fun x => x = g2) (Turned.set (F := fun x => x = g2) _ ⟨g2, t, none⟩ (.int .u8 (u : Int)) rfl) (fun x e => by
                                          subst e
                                          have h1 := HX.out x (Or.inr rfl)
                                          have h2 := HN4.out x (Or.inr rfl)
                                          have h3 := HP2.out.keep.size
                                          have h4 := HSZ.out
                                          exact ⟨by omega, h2.1, h2.2, by omega⟩))
                                        have e3 : (0 : Int) ≤ (t : Int) := Int.natCast_nonneg _
                                        have e4 : (t : Int) < (n6 : Int) := by omega
                                        have em : n6 ≤ 13 := HM.out.2.2.2
                                        have HLT2 : Hid (t < n6) := hlt3
                                        clear h6 hM hu hlt3
                                        go_wp2_with fail
                                        go_roundw
                                        case rel => exact ⟨t + 1, by have := HLT2.out; omega, by go_num, H6.out, H4.out⟩
                                        case measure => have := HLT2.out; simp [intOf]; omega
                                      · obtain rfl : t = n6 := by omega
                                        have HM4 := Lib.hid hM
                                        clear h6 hM hlt3
                                        cases tt <;>
                                        · go_wp2_with fail
                                          go_meet
                                          case rel => exact ⟨pb, B5, iw, R, F5, Fr, rfl, HM4.out.noQ, HS4.out⟩
                      · by_cases h1 : what = 1
                        · as_aux_lemma =>
                              subst h1
                              clear z2 z3
                              have hq1 := (HP2.out.q q rfl).1
                              by_cases hd : m1 = g
                              · subst hd
                                go_wp2_with fail
                                refine (bcontains_in HP2.out.bas _ c1 A1 y1 HV1.out.2 (HV1.out.1.keep (Nat.le_refl _) HP2.out.keep) HP2.out.keep.size).mono ?_
                                rintro e w4 ⟨rfl, k4⟩
                                have M4 := Lib.hid (HP2.out.later k4)
                                have u1 := (k4.cell (p := ⟨q, 1, none⟩) hq1).trans z1
                                clear k4 z1
                                go_wp2_with fail
                                refine (rpcontains_in (G := fun x => x < w.heap.size) M4.out.ref HS.out c1 A1 y1 (LiesIn.of_bytes (r := ⟨A1, m1, c1, y1⟩) (HV1.out.1.keep (Nat.le_refl _) M4.out.keep) HV1.out.2) (fun x hx => Nat.lt_of_lt_of_le hx M4.out.keep.size) HGS.out.1 (by have := HGS.out; omega) (by have := HGS.out; omega)).mono ?_
                                obtain ⟨tt, htt⟩ : ∃ tt, decide (inB m1 s B (y1 ++ List.replicate s 0)) = tt := ⟨_, rfl⟩
                                rw [htt]
                                rintro e w5 ⟨rfl, k5⟩
                                have M5 := Lib.hid (M4.out.later k5)
                                clear k5 htt u1
                                cases tt <;>
                                · go_wp2_with fail
                                  go_meet
                                  case rel => exact ⟨pb, B, iw, R, Fb, Fr, rfl, M5.out.noQ, HS.out⟩
                              · go_wp2_with fail
                                refine (bcontains_dim HP2.out.bas m1 c1 A1 hd).mono ?_
                                rintro e w4 ⟨rfl, k4⟩
                                have M4 := Lib.hid (HP2.out.later k4)
                                have u1 := (k4.cell (p := ⟨q, 1, none⟩) hq1).trans z1
                                clear k4 z1
                                go_wp2_with fail
                                refine (rpcontains_dim M4.out.ref m1 c1 A1 hd).mono ?_
                                rintro e w5 ⟨rfl, k5⟩
                                have M5 := Lib.hid (M4.out.later k5)
                                clear k5 u1
                                go_wp2_with fail
                                go_meet
                                case rel => exact ⟨pb, B, iw, R, Fb, Fr, rfl, M5.out.noQ, HS.out⟩
                        · by_cases h2 : what = 2
                          · as_aux_lemma =>
                                subst h2
                                clear z1 z2
                                have hq1 := (HP2.out.q q rfl).1
                                have HQ1 := Lib.hid hq1
                                clear hq1
                                go_upto_region 41 with fail
                                go_cut [24, 25] from 196 to 202 (fun u24 u25 wx => ∃ (q4 n5 c5 n6 c6 : Nat) (er : Int) (A5 A6 : Option Addr) (x5 x6 : List Nat), u24 = .pointer (some ⟨q4, 0, none⟩) ∧ u25 = .int .i64 er ∧ PlayM w wx g s pb rb bi br B iw R Fb Fr (fun x => x = q) w2 ∧ wx.heap[q4]? = some (.cells #[.slice A5 n5 c5, .slice A6 n6 c6] 33 (0, 0)) ∧ Bytes wx wx.heap.size A5 n5 x5 ∧ Bytes wx wx.heap.size A6 n6 x6 ∧ ((n3 = B.length ∧ 0 = er ∧ g = n5 ∧ s = n6 ∧ (vComb (g + s) B x3 B.length).take g = x5 ∧ (vComb (g + s) B x3 B.length).drop g = x6) ∨ (¬ n3 = B.length ∧ 21 = er ∧ 0 = n5 ∧ 0 = n6 ∧ [] = x5 ∧ [] = x6)))
                                case first =>
                                  by_cases hd : n3 = B.length
                                  · have HD := Lib.hid hd
                                    clear hd
                                    go_wp2_with fail
                                    refine (bcombine_in HP2.out.bas _ c3 n3 A3 x3 (HV3.out.1.keep (Nat.le_refl _) HP2.out.keep) HP2.out.keep.size HD.out).mono ?_
                                    rintro e w4 ⟨A5, c5, A6, c6, rfl, o5, o6, k4⟩
                                    have kp : Keep w4 (w4.alloc (.cells #[.slice A5 g c5, .slice A6 s c6] 33)) := (Keep.refl w4).alloc _ _
                                    have M4 := Lib.hid (HP2.out.later (k4.trans kp))
                                    have HB4 := Lib.hid (heap_alloc_new w4 (.cells #[.slice A5 g c5, .slice A6 s c6] 33))
                                    have HO5 := Lib.hid (And.intro (o5.keep kp).bytes (o6.keep kp).bytes)
                                    clear o5 o6 k4 kp
                                    go_wp2_with fail
                                    go_meet
                                    case rel => exact ⟨_, _, _, _, _, _, _, _, _, _, rfl, rfl, M4.out, HB4.out, HO5.out.1, HO5.out.2, Or.inl ⟨HD.out, by trivial, by trivial, by trivial, by trivial, by trivial⟩⟩
                                  · go_wp2_with fail
                                    refine (bcombine_dim HP2.out.bas n3 c3 A3 hd).mono ?_
                                    rintro e w4 ⟨rfl, k4⟩
                                    have kp : Keep w4 (w4.alloc (.cells #[.slice none 0 0, .slice none 0 0] 33)) := (Keep.refl w4).alloc _ _
                                    have M4 := Lib.hid (HP2.out.later (k4.trans kp))
                                    have HB4 := Lib.hid (heap_alloc_new w4 (.cells #[.slice none 0 0, .slice none 0 0] 33))
                                    have HD := Lib.hid hd
                                    clear k4 kp hd
                                    go_wp2_with fail
                                    go_meet
                                    case rel => exact ⟨_, _, _, _, _, _, _, _, _, _, rfl, rfl, M4.out, HB4.out, Bytes.nothing _ _ _, Bytes.nothing _ _ _, Or.inr ⟨HD.out, by trivial, by trivial, by trivial, by trivial, by trivial⟩⟩
                                case rest =>
                                  obtain ⟨q4, n5, c5, n6, c6, er, A5, A6, x5, x6, rfl, rfl, hM, hb4, hb5, hb6, hor⟩ := hcut
                                  have M5 := Lib.hid hM
                                  have HB4 := Lib.hid hb4
                                  have HB5 := Lib.hid (And.intro hb5 hb6)
                                  have z3' : wc.cell? ⟨q, 3, none⟩ = some (.slice A3 n3 c3) := cell_of_row _ _ _ _ _ _ ((hM.q q rfl).2.2.2.trans HBX.out)
                                  clear hM hb4 hb5 hb6 z3
                                  obtain ⟨w5, rfl⟩ : ∃ w5, w5 = wc := ⟨_, rfl⟩
                                  go_upto_region 42 with fail
                                  go_cut [26, 27] from 203 to 209 (fun u26 u27 wx => ∃ (q6 c7 c8 : Nat) (A7 A8 : Option Addr), u26 = .pointer (some ⟨q6, 0, none⟩) ∧ u27 = .int .i64 er ∧ PlayM w wx g s pb rb bi br B iw R Fb Fr (fun x => x = q) w2 ∧ wx.heap[q4]? = some (.cells #[.slice A5 n5 c5, .slice A6 n6 c6] 33 (0, 0)) ∧ wx.heap[q6]? = some (.cells #[.slice A7 n5 c7, .slice A8 n6 c8] 33 (0, 0)) ∧ Bytes wx w5.heap.size A5 n5 x5 ∧ Bytes wx w5.heap.size A6 n6 x6 ∧ (∃ b7, Bytes wx b7 A7 n5 x5) ∧ (∃ b8, Bytes wx b8 A8 n6 x6))
                                  case first =>
                                    have hq4 : q4 < w5.heap.size := (Array.getElem?_eq_some_iff.1 HB4.out).1
                                    have HQ4 := Lib.hid hq4
                                    clear hq4
                                    rcases hor with ⟨hd, rfl, rfl, rfl, rfl, rfl⟩ | ⟨hd, rfl, rfl, rfl, rfl, rfl⟩
                                    · have HD := Lib.hid hd
                                      clear hd
                                      go_wp2_with fail
                                      refine (rpcombine_in M5.out.ref HS.out (by have := HGS.out; omega) (by have := HGS.out; omega) _ c3 n3 A3 x3 (HV3.out.1.keep (Nat.le_refl _) M5.out.keep) M5.out.keep.size HD.out).mono ?_
                                      rintro e w6 ⟨⟨⟨A7, n7, c7, x7⟩, ⟨A8, n8, c8, x8⟩⟩, he, z7, z8, l7, l8, hx, k6⟩
                                      simp only at z7 z8
                                      obtain rfl : g = n7 := z7.symm
                                      obtain rfl : s = n8 := z8.symm
                                      replace he : e = .returned (.tuple #[.agg #[.slice A7 g c7, .slice A8 s c8], .int .i64 0]) := he
                                      subst he
                                      have kp : Keep w6 (w6.alloc (.cells #[.slice A7 g c7, .slice A8 s c8] 33)) := (Keep.refl w6).alloc _ _
                                      have hk7 := (l7.turned (Turned.of_keep (F := fun _ => False) kp) fun _ _ e => e).bytes (B := w6.heap.size) fun x hx => hx.2
                                      have hk8 := (l8.turned (Turned.of_keep (F := fun _ => False) kp) fun _ _ e => e).bytes (B := w6.heap.size) fun x hx => hx.2
                                      have hx' : x7 ++ x8 = (vComb (g + s) B x3 B.length) := hx
                                      have e7 : (vComb (g + s) B x3 B.length).take g = x7 := by rw [← hx']; exact List.take_left' hk7.length
                                      have e8 : (vComb (g + s) B x3 B.length).drop g = x8 := by rw [← hx']; exact List.drop_left' hk7.length
                                      have K7 : Hid (Bytes (w6.alloc (.cells #[.slice A7 g c7, .slice A8 s c8] 33)) w6.heap.size A7 g ((vComb (g + s) B x3 B.length).take g) ∧ Bytes (w6.alloc (.cells #[.slice A7 g c7, .slice A8 s c8] 33)) w6.heap.size A8 s ((vComb (g + s) B x3 B.length).drop g)) := by
                                        rw [e7, e8]
                                        exact ⟨hk7, hk8⟩
                                      have K5 := Lib.hid (And.intro (HB5.out.1.keep (Nat.le_refl _) (k6.trans kp)) (HB5.out.2.keep (Nat.le_refl _) (k6.trans kp)))
                                      have M6 := Lib.hid (M5.out.later (k6.trans kp))
                                      have B4 := Lib.hid (((k6.trans kp).block q4 HQ4.out).trans HB4.out)
                                      have B6 := Lib.hid (heap_alloc_new w6 (.cells #[.slice A7 g c7, .slice A8 s c8] 33))
                                      clear hk7 hk8 hx hx' e7 e8 l7 l8 k6 kp z3' z7 z8
                                      go_wp2_with fail
                                      go_meet
                                      case rel => exact ⟨_, _, _, _, _, rfl, rfl, M6.out, B4.out, B6.out, K5.out.1, K5.out.2, ⟨_, K7.out.1⟩, ⟨_, K7.out.2⟩⟩
                                    · have HD := Lib.hid hd
                                      clear hd
                                      go_wp2_with fail
                                      refine (rpcombine_dim M5.out.ref HS.out (by have := HGS.out; omega) n3 c3 A3 HD.out).mono ?_
                                      rintro e w6 ⟨rfl, k6⟩
                                      have kp : Keep w6 (w6.alloc (.cells #[.slice none 0 0, .slice none 0 0] 33)) := (Keep.refl w6).alloc _ _
                                      have K5 := Lib.hid (And.intro (HB5.out.1.keep (Nat.le_refl _) (k6.trans kp)) (HB5.out.2.keep (Nat.le_refl _) (k6.trans kp)))
                                      have M6 := Lib.hid (M5.out.later (k6.trans kp))
                                      have B4 := Lib.hid (((k6.trans kp).block q4 HQ4.out).trans HB4.out)
                                      have B6 := Lib.hid (heap_alloc_new w6 (.cells #[.slice none 0 0, .slice none 0 0] 33))
                                      clear k6 kp z3'
                                      go_wp2_with fail
                                      go_meet
                                      case rel => exact ⟨_, _, _, _, _, rfl, rfl, M6.out, B4.out, B6.out, K5.out.1, K5.out.2, ⟨0, Bytes.nothing _ _ _⟩, ⟨0, Bytes.nothing _ _ _⟩⟩
                                  case rest =>
                                    obtain ⟨q6, c7, c8, A7, A8, rfl, rfl, hM, hb4, hb6, h5, h6, ⟨b7, h7⟩, ⟨b8, h8⟩⟩ := hcut
                                    have M6 := Lib.hid hM
                                    have hbe : (er != er) = false := by simp
                                    have v0 : wc.cell? ⟨q4, 0, none⟩ = some (.slice A5 n5 c5) := cell_of_row _ _ _ _ _ _ hb4
                                    have v1 : wc.cell? ⟨q4, 1, none⟩ = some (.slice A6 n6 c6) := cell_of_row _ _ _ _ _ _ hb4
                                    have r0 : wc.cell? ⟨q6, 0, none⟩ = some (.slice A7 n5 c7) := cell_of_row _ _ _ _ _ _ hb6
                                    have r1 : wc.cell? ⟨q6, 1, none⟩ = some (.slice A8 n6 c8) := cell_of_row _ _ _ _ _ _ hb6
                                    have C1 := Lib.hid (equal_any _ _ n5 n5 c5 c7 A5 A7 x5 x5 wc h5 h7)
                                    have C2 := Lib.hid (equal_any _ _ n6 n6 c6 c8 A6 A8 x6 x6 wc h6 h8)
                                    rw [decide_eq_true rfl] at C1
                                    rw [decide_eq_true rfl] at C2
                                    clear hM hb4 hb6 h5 h6 h7 h8 hor M5 HB4 HB5 z3'
                                    go_wp2_with fail
                                    refine C1.out.mono ?_
                                    rintro e w8 ⟨rfl, rfl⟩
                                    go_wp2_with fail
                                    refine C2.out.mono ?_
                                    rintro e w8 ⟨rfl, rfl⟩
                                    go_wp2_with fail
                                    go_meet
                                    case rel => exact ⟨pb, B, iw, R, Fb, Fr, rfl, M6.out.noQ, HS.out⟩
                          · by_cases h3 : what = 3
                            · as_aux_lemma =>
                                  subst h3
                                  clear z1 z2 z3
                                  have hbl := HP2.out.bas.fine.1.length_le
                                  by_cases hd : B.length = g
                                  · have HD := Lib.hid hd
                                    clear hbl
                                    go_wp2_with fail
                                    refine (bsolve_ap HP2.out.bas hd).mono ?_
                                    rintro e w4 ⟨A5, c5, rs, rfl, o5, o5s, x5, k4, i5⟩
                                    have M4 := Lib.hid (HP2.out.later k4)
                                    have O5 := Lib.hid (And.intro o5 (And.intro o5s (And.intro x5 i5)))
                                    clear o5 o5s x5 i5
                                    go_wp2_with fail
                                    refine (rpsolve_in M4.out.ref HS.out (by have := HGS.out; omega) hd).mono ?_
                                    rintro e w5 ⟨A6, c6, rs6, rfl, o6, l6, x6, k5⟩
                                    have M5 := Lib.hid (M4.out.later k5)
                                    have SV : Hid (SolvL w5 w2.heap.size g 0 A5 c5 rs A6 c6 rs6 Fr) := ⟨O5.out.1.keep k5, fun j r _ hr => (O5.out.2.1 r (List.mem_of_getElem? hr)).keep k5, o6.lowerB k4.size, l6, O5.out.2.2.2, fun x hx => HP2.out.ref.lt x hx⟩
                                    have HXX : Hid (rowsXs rs = rowsXs rs6 ∧ ∀ r ∈ rs, r.n = s) := ⟨O5.out.2.2.1.trans x6.symm, fun r hr => by
                                      rw [← (O5.out.2.1 r hr).length]
                                      have hm : r.xs ∈ B.map (List.drop g) := by rw [← O5.out.2.2.1]; exact List.mem_map.2 ⟨r, hr, rfl⟩
                                      obtain ⟨y, hy, e⟩ := List.mem_map.1 hm
                                      rw [← e, List.length_drop, (HP2.out.bas.fine.1.ok y hy).1]; omega⟩
                                    clear o6 l6 x6 k5 k4 O5 M4
                                    go_wp2_with fail
                                    go_loopw [253] (fun i wz => ∃ kk : Nat, kk ≤ g ∧ i = .int .i64 kk ∧ SolvL wz w2.heap.size g kk A5 c5 rs A6 c6 rs6 Fr ∧ PlayM w wz g s pb rb bi br B iw R Fb Fr (fun x => x = q) w2) (fun i _ => g - (intOf i).toNat)
                                    case atStart => exact ⟨0, by omega, rfl, SV.out, M5.out⟩
                                    case round =>
                                      clear SV M5
                                      obtain ⟨kk, hkk, rfl, hv, hM⟩ := hrel
                                      have HV := Lib.hid hv
                                      have HM5 := Lib.hid hM
                                      clear hM
                                      by_cases hlt : kk < g
                                      · obtain ⟨g5, hA5, hg5a, hg5⟩ := hv.x.block (by omega)
                                        obtain ⟨g6, hA6, hg6a, hg6⟩ := hv.y.block (by omega)
                                        subst hA5
                                        subst hA6
                                        have hr := List.getElem?_eq_getElem (l := rs) (i := kk) (by rw [hv.x.length]; exact hlt)
                                        have hr6 := List.getElem?_eq_getElem (l := rs6) (i := kk) (by rw [hv.y.length]; exact hlt)
                                        obtain ⟨r, hre⟩ : ∃ r, rs[kk]'(by rw [hv.x.length]; exact hlt) = r := ⟨_, rfl⟩
                                        obtain ⟨r6, hre6⟩ : ∃ r, rs6[kk]'(by rw [hv.y.length]; exact hlt) = r := ⟨_, rfl⟩
                                        rw [hre] at hr
                                        rw [hre6] at hr6
                                        have hxe : r.xs = r6.xs := by
                                          have e := congrArg (fun l => l[kk]?) HXX.out.1
                                          simp only [rowsXs, List.getElem?_map, hr, hr6, Option.map_some, Option.some.injEq] at e
                                          exact e
                                        have hcx := World.ownsRow.cellAt hv.x kk (by omega)
                                        rw [List.getElem?_map, hr] at hcx
                                        have hcy := World.ownsRow.cellAt hv.y kk (by omega)
                                        rw [List.getElem?_map, hr6] at hcy
                                        have hrn := HXX.out.2 r (List.mem_of_getElem? hr)
                                        have hox := hv.xs kk r (Nat.le_refl _) hr
                                        have hly := (hv.ys r6 (List.mem_of_getElem? hr6)).bytes (B := w2.heap.size) hv.fr
                                        obtain ⟨rA, rn, rc, rx⟩ := r
                                        obtain ⟨sA, sn, sc, sx⟩ := r6
                                        simp only at hrn hxe hox hly
                                        subst hxe
                                        obtain rfl : rn = s := hrn
                                        obtain ⟨g2, hA2, hg2a, hg2⟩ := hox.block (by have := HGS.out; omega)
                                        subst hA2
                                        have hcb := hox.cell (show 0 < rn by have := HGS.out; omega)
                                        have hfb := hox.frozen 0
                                        obtain ⟨v, hvv⟩ : ∃ v, rx.getD 0 0 = v := ⟨_, rfl⟩
                                        have hvb : v < 256 := by rw [← hvv]; exact hox.2.getD 0
                                        rw [hvv] at hcb
                                        obtain ⟨u, hu⟩ : ∃ u, v ^^^ 255 = u := ⟨_, rfl⟩
                                        obtain ⟨hxor, hu2⟩ := flip_int v u hvb hu
                                        have HFL := Lib.hid (hv.flip hr (.int .u8 (u : Int)))
                                        have HMF : Hid (PlayM w (wr.setCell ⟨g2, 0, none⟩ (.int .u8 (u : Int))) g rn pb rb bi br B iw R Fb Fr (fun x => x = q) w2) := HM5.out.other (G := fun x => x = g2) (Turned.set (F := fun x => x = g2) wr ⟨g2, 0, none⟩ _ rfl) fun x hx => by
                                          subst hx
                                          have h1 := (hv.flip hr (.int .u8 (u : Int))).2
                                          have h2 := HP2.out.keep.size
                                          exact ⟨by omega, fun e => by have := HP2.out.fb x e; omega, fun e => by have := HP2.out.ref.lt x e; omega, fun e => by have := (HP2.out.q q rfl).1; omega⟩
                                        have hcx' : wr.cell? ⟨g5, kk, none⟩ = some (.slice (some ⟨g2, 0, none⟩) rn rc) := hcx
                                        have hcy' : wr.cell? ⟨g6, kk, none⟩ = some (.slice sA sn sc) := hcy
                                        have hwz : w2.heap.size ≤ wr.heap.size := Nat.le_of_lt (Nat.lt_of_le_of_lt hg5a hg5)
                                        have C0 := Lib.hid (equal_any _ _ rn sn rc sc _ sA rx rx wr.drew hox.drew.bytes (hly.keep hwz (Keep.refl wr).drew))
                                        rw [decide_eq_true rfl] at C0
                                        have d1 : (0 : Int) ≤ (kk : Int) := Int.natCast_nonneg _
                                        have d2 : (kk : Int) < (g : Int) := by omega
                                        have d3 : (0 : Int) < (rn : Int) := by have := HGS.out; omega
                                        have HLT : Hid (kk < g) := hlt
                                        have KD : Keep (wr.setCell ⟨g2, 0, none⟩ (.int .u8 (u : Int))) (wr.setCell ⟨g2, 0, none⟩ (.int .u8 (u : Int))).drew := (Keep.refl _).drew
                                        have HFD : Hid (SolvL (wr.setCell ⟨g2, 0, none⟩ (.int .u8 (u : Int))).drew w2.heap.size g (kk + 1) (some ⟨g5, 0, none⟩) c5 rs (some ⟨g6, 0, none⟩) c6 rs6 Fr) := ⟨HFL.out.1.x.keep KD, fun j r a b => (HFL.out.1.xs j r a b).keep KD, HFL.out.1.y.keep KD, fun r hr => (HFL.out.1.ys r hr).turned (Turned.of_keep (F := fun _ => False) KD) fun _ _ e => e, HFL.out.1.inc, HFL.out.1.fr⟩
                                        have HMD := Lib.hid (HMF.out.later KD)
                                        clear HFL HMF KD hr hr6 hre hre6 hcx hcy hox hly hvv hvb hu hv hlt
                                        go_wp2_with fail
                                        refine wp_region_noPanic ?_
                                        refine wp_region_held_drew (S := fun wz => wz.cell? ⟨g5, kk, none⟩ = some (.slice (some ⟨g2, 0, none⟩) rn rc) ∧ wz.cell? ⟨g6, kk, none⟩ = some (.slice sA sn sc)) (by kernel_rfl) ⟨hcx', hcy'⟩ (fun hHeld => ?_)
                                        refine wpAnyH_take (i := 0) (v := ?_) rfl (by kernel_rfl) (by kernel_rfl) (by kernel_rfl) (fun _ _ _ h => h) (Or.inl ⟨by rfl, ?_⟩) hHeld ?_
                                        rotate_left
                                        · intro wq hSw
                                          go_simp
                                          all_goals with_reducible rfl
                                        try simp only [Act.put, List.getElem_toArray, List.getElem_cons_succ, List.getElem_cons_zero, List.setIfInBounds_toArray, List.set_cons_zero, List.set_cons_succ]
                                        refine wpAnyH_take (i := 1) (v := ?_) rfl (by kernel_rfl) (by kernel_rfl) (by kernel_rfl) (fun _ _ _ h => h) (Or.inl ⟨by rfl, ?_⟩) hHeld ?_
                                        rotate_left
                                        · intro wq hSw
                                          go_simp
                                          all_goals with_reducible rfl
                                        try simp only [Act.put, List.getElem_toArray, List.getElem_cons_succ, List.getElem_cons_zero, List.setIfInBounds_toArray, List.set_cons_zero, List.set_cons_succ]
                                        refine wpAnyH_take (i := 2) (v := ?_) rfl (by kernel_rfl) (by kernel_rfl) (by kernel_rfl) (fun _ _ _ h => h) (Or.inl ⟨by rfl, ?_⟩) hHeld ?_
                                        rotate_left
                                        · intro wq hSw
                                          go_simp
                                          all_goals with_reducible rfl
                                        try simp only [Act.put, List.getElem_toArray, List.getElem_cons_succ, List.getElem_cons_zero, List.setIfInBounds_toArray, List.set_cons_zero, List.set_cons_succ]
                                        refine wpAnyH_take (i := 3) (v := ?_) rfl (by kernel_rfl) (by kernel_rfl) (by kernel_rfl) (fun _ _ _ h => h) (Or.inl ⟨by rfl, ?_⟩) hHeld ?_
                                        rotate_left
                                        · intro wq hSw
                                          have q0 := hSw.1
                                          have q1 := hSw.2
                                          go_simp
                                          all_goals with_reducible rfl
                                        try simp only [Act.put, List.getElem_toArray, List.getElem_cons_succ, List.getElem_cons_zero, List.setIfInBounds_toArray, List.set_cons_zero, List.set_cons_succ]
                                        refine wpAnyH_take (i := 4) (v := ?_) rfl (by kernel_rfl) (by kernel_rfl) (by kernel_rfl) (fun _ _ _ h => h) (Or.inl ⟨by rfl, ?_⟩) hHeld ?_
                                        rotate_left
                                        · intro wq hSw
                                          go_simp
                                          all_goals with_reducible rfl
                                        try simp only [Act.put, List.getElem_toArray, List.getElem_cons_succ, List.getElem_cons_zero, List.setIfInBounds_toArray, List.set_cons_zero, List.set_cons_succ]
                                        refine wpAnyH_take (i := 5) (v := ?_) rfl (by kernel_rfl) (by kernel_rfl) (by kernel_rfl) (fun _ _ _ h => h) (Or.inl ⟨by rfl, ?_⟩) hHeld ?_
                                        rotate_left
                                        · intro wq hSw
                                          go_simp
                                          all_goals with_reducible rfl
                                        try simp only [Act.put, List.getElem_toArray, List.getElem_cons_succ, List.getElem_cons_zero, List.setIfInBounds_toArray, List.set_cons_zero, List.set_cons_succ]
                                        refine wpAnyH_take (i := 6) (v := ?_) rfl (by kernel_rfl) (by kernel_rfl) (by kernel_rfl) (fun _ _ _ h => h) (Or.inl ⟨by rfl, ?_⟩) hHeld ?_
                                        rotate_left
                                        · intro wq hSw
                                          go_simp
                                          all_goals with_reducible rfl
                                        try simp only [Act.put, List.getElem_toArray, List.getElem_cons_succ, List.getElem_cons_zero, List.setIfInBounds_toArray, List.set_cons_zero, List.set_cons_succ]
                                        refine wpAnyH_take (i := 7) (v := ?_) rfl (by kernel_rfl) (by kernel_rfl) (by kernel_rfl) (fun _ _ _ h => h) (Or.inl ⟨by rfl, ?_⟩) hHeld ?_
                                        rotate_left
                                        · intro wq hSw
                                          have q0 := hSw.1
                                          have q1 := hSw.2
                                          go_simp
                                          all_goals with_reducible rfl
                                        try simp only [Act.put, List.getElem_toArray, List.getElem_cons_succ, List.getElem_cons_zero, List.setIfInBounds_toArray, List.set_cons_zero, List.set_cons_succ]
                                        refine wpAnyH_ready (rs := [8]) (by kernel_rfl) (by simp) ?_
                                        refine AllReadyH.cons rfl (fun K hK => ?_) AllReadyH.nil
                                        go_simp
                                        refine (C0.out).mono ?_
                                        rintro e w9 ⟨rfl, rfl⟩
                                        refine hK.out _ _ ⟨hcx', hcy'⟩ (fun hHeld => ?_)
                                        clear hK K
                                        try simp only [Act.put, List.getElem_toArray, List.getElem_cons_succ, List.getElem_cons_zero, List.setIfInBounds_toArray, List.set_cons_zero, List.set_cons_succ]
                                        refine wpAnyH_take (i := 9) (v := ?_) rfl (by kernel_rfl) (by kernel_rfl) (by kernel_rfl) (fun _ _ _ h => h) (Or.inl ⟨by rfl, ?_⟩) hHeld ?_
                                        rotate_left
                                        · intro wq hSw
                                          go_simp
                                          all_goals with_reducible rfl
                                        try simp only [Act.put, List.getElem_toArray, List.getElem_cons_succ, List.getElem_cons_zero, List.setIfInBounds_toArray, List.set_cons_zero, List.set_cons_succ]
                                        refine wpAnyH_done (by kernel_rfl) ?_ _
                                        refine NoPanic.normal ?_
                                        clear hHeld
                                        go_wp2_with fail
                                        go_roundw
                                        case rel => exact ⟨kk + 1, by have := HLT.out; omega, by go_num, HFD.out, HMD.out⟩
                                        case measure => have := HLT.out; simp [intOf]; omega
                                      · obtain rfl : kk = g := by omega
                                        go_wp2_with fail
                                        go_meet
                                        case rel => exact ⟨pb, B, iw, R, Fb, Fr, rfl, HM5.out.noQ, HS.out⟩
                                  · have hlo : B.length < g := by omega
                                    go_wp2_with fail
                                    refine (bsolve_low HP2.out.bas hd).mono ?_
                                    rintro e w4 ⟨rfl, k4⟩
                                    have M4 := Lib.hid (HP2.out.later k4)
                                    clear k4
                                    go_wp2_with fail
                                    refine (rpsolve_low M4.out.ref HS.out (by have := HGS.out; omega) hlo).mono ?_
                                    rintro e w5 ⟨rfl, k5⟩
                                    have M5 := Lib.hid (M4.out.later k5)
                                    clear k5
                                    go_wp2_with fail
                                    go_loopw [253] (fun i wz => i = .int .i64 0 ∧ PlayM w wz g s pb rb bi br B iw R Fb Fr (fun x => x = q) w2) (fun _ _ => 0)
                                    case atStart => exact ⟨rfl, M5.out⟩
                                    case round =>
                                      clear M5
                                      obtain ⟨rfl, hM⟩ := hrel
                                      have HM5 := Lib.hid hM
                                      clear hM
                                      go_wp2_with fail
                                      go_meet
                                      case rel => exact ⟨pb, B, iw, R, Fb, Fr, rfl, HM5.out.noQ, HS.out⟩
                            · by_cases h4 : what = 4
                              · as_aux_lemma =>
                                    subst h4
                                    have hbas := HP2.out.bas.fine
                                    clear z3
                                    go_wp2_with fail
                                    refine (bcopy_any HP2.out.bas).mono ?_
                                    rintro e w4 ⟨pc, F4, rfl, r4, f4, k4⟩
                                    have M4 : Hid (PlayM w w4 g s pc rb bi br B iw R F4 Fr (fun x => x = q) w2) := HP2.out.copy r4 f4 k4
                                    have OLD : Hid (BasR w4 Fb pb g s B) := HP2.out.bas.keep k4
                                    have HF4 : Hid (∀ x, Fb x → w.heap.size ≤ x ∧ ¬ F4 x ∧ ¬ Fr x ∧ ¬ x = q) := fun x hx => ⟨HP2.out.lb x hx, fun e => by have h5 := f4 x e; have h6 := HP2.out.fb x hx; omega, HP2.out.ap x hx, fun e => (HP2.out.q q rfl).2.1 (e ▸ hx)⟩
                                    have u1 : w4.cell? ⟨q, 1, none⟩ = some (.slice A1 m1 c1) := (k4.cell (p := ⟨q, 1, none⟩) (HP2.out.q q rfl).1).trans z1
                                    have u2 : w4.cell? ⟨q, 2, none⟩ = some (.slice A2 m2 c2) := (k4.cell (p := ⟨q, 2, none⟩) (HP2.out.q q rfl).1).trans z2
                                    have KW : Hid (Keep w w4) := M4.out.keep
                                    clear r4 f4 k4 z1 z2 hbas
                                    by_cases hd : m1 = g ∧ m2 = s
                                    · obtain ⟨rfl, rfl⟩ := hd
                                      go_wp2_with fail
                                      refine (binsert_in OLD.out _ _ c1 c2 A1 A2 y1 y2 HV1.out.2 HV2.out.2 (HV1.out.1.keep (Nat.le_refl _) KW.out) (HV2.out.1.keep (Nat.le_refl _) KW.out) KW.out.size KW.out.size).mono ?_
                                      rintro e w5 ⟨rfl, F5, r5, f5, t5⟩
                                      have M5 := Lib.hid (M4.out.other t5 fun x hx => HF4.out x hx)
                                      clear r5 f5 t5
                                      go_wp2_with fail
                                      go_meet
                                      case rel => exact ⟨pc, B, iw, R, F4, Fr, rfl, M5.out.noQ, HS.out⟩
                                    · go_wp2_with fail
                                      refine (binsert_dim OLD.out m1 m2 c1 c2 A1 A2 (by omega)).mono ?_
                                      rintro e w5 ⟨rfl, k5⟩
                                      have M5 := Lib.hid (M4.out.later k5)
                                      clear k5
                                      go_wp2_with fail
                                      go_meet
                                      case rel => exact ⟨pc, B, iw, R, F4, Fr, rfl, M5.out.noQ, HS.out⟩
                              · as_aux_lemma =>
                                    have b0 : (what == 0) = false := beq_eq_false_iff_ne.2 h0
                                    have b1 : (what == 1) = false := beq_eq_false_iff_ne.2 h1
                                    have b2 : (what == 2) = false := beq_eq_false_iff_ne.2 h2
                                    have b3 : (what == 3) = false := beq_eq_false_iff_ne.2 h3
                                    have b4 : (what == 4) = false := beq_eq_false_iff_ne.2 h4
                                    clear z1 z2 z3
                                    go_wp2_with fail
                                    go_meet
                                    case rel => exact ⟨pb, B, iw, R, Fb, Fr, rfl, HP2.out.noQ, HS.out⟩
                    case rest =>
                      obtain ⟨pb, B, iw, R, Fb, Fr, rfl, hP, hS⟩ := hcut
                      have HM9 := Lib.hid hP
                      have HS9 := Lib.hid hS
                      clear hP hS z0 z1 z2 z3
                      obtain ⟨w8, rfl⟩ : ∃ w8, w8 = wc := ⟨_, rfl⟩
                      go_wp2_with fail
                      refine (brows_any HM9.out.bas).mono ?_
                      rintro e w4 ⟨A5, m, c5, qs, rfl, o5⟩
                      have M4 := Lib.hid (HM9.out.later o5.2.2.2)
                      have O5 := Lib.hid o5
                      clear o5
                      go_wp2_with fail
                      refine (brank_any M4.out.bas).mono ?_
                      rintro e w5 ⟨rfl, k5⟩
                      have M5 := Lib.hid (M4.out.later k5)
                      have K5 := Lib.hid k5
                      clear k5
                      go_wp2_with fail
                      refine (rprank_any M5.out.ref HS9.out (by have := HGS.out; omega)).mono ?_
                      rintro e w6 ⟨rfl, k6⟩
                      have M6 := Lib.hid (M5.out.later k6)
                      have K6 := Lib.hid (K5.out.trans k6)
                      clear k6 K5 M5 M4
                      go_wp2_with fail
                      refine (rprows_any M6.out.ref (by have := HGS.out; omega)).mono ?_
                      rintro e w7 ⟨A7, m7, c7, rfl, o7⟩
                      have M7 := Lib.hid (M6.out.later o7.2.2)
                      have K7 := Lib.hid (K6.out.trans o7.2.2)
                      have O7 := Lib.hid o7
                      have hm : m ≤ 1000000 := by
                        have h1 := O5.out.1.length
                        have h2 := congrArg List.length O5.out.2.2.1
                        rw [List.length_map] at h2
                        have h3 := HM9.out.bas.fine.1.length_le
                        have := HGS.out
                        omega
                      have HMM : Hid (m ≤ 1000000) := hm
                      clear o7 M6 K6 hm
                      go_wp2_with fail
                      refine (rpsame_any m m7 c5 c7 A5 A7 _ _ qs (selP iw R) w7 (O5.out.stIn.keep K7.out) O7.out.stIn (fun x hx => Nat.lt_of_lt_of_le hx.2 K7.out.size) (fun x hx => by
                        rcases hx with e | e
                        · exact M7.out.ref.lt x e
                        · exact e.2) HMM.out).mono ?_
                      have hpe : pairXs qs = pairXs (selP iw R) := pairs_eq (g := g) (O5.out.2.2.1.trans HS9.out.sel.symm) (fun p hp => by have h1 := O5.out.2.1 p hp; rw [h1.1.length]; exact h1.2.2.1) (sel_lens HS9.out)
                      rw [decide_eq_true hpe]
                      rintro e w9 ⟨rfl, nd, rfl⟩
                      have M9 := Lib.hid (M7.out.later ((Keep.refl w7).drewN nd))
                      have T9 : Hid (OwnSt (w7.drewN nd) w8.heap.size A5 m c5 qs ∧ ∀ p ∈ qs, (Mine w8 (w7.drewN nd) p.a.A p.a.n p.a.c ∧ Mine w8 (w7.drewN nd) p.b.A p.b.n p.b.c) ∧ p.a.n = g ∧ p.b.n = s) := ⟨O5.out.1.keep (K7.out.trans ((Keep.refl w7).drewN nd)), fun p hp => by
                        have h1 := O5.out.2.1 p hp
                        exact ⟨⟨⟨_, h1.1.keep (K7.out.trans ((Keep.refl w7).drewN nd))⟩, ⟨_, h1.2.1.keep (K7.out.trans ((Keep.refl w7).drewN nd))⟩⟩, h1.2.2⟩⟩
                      clear hpe M7 O7 K7 O5
                      go_wp2_with fail
                      go_loopw [300] (fun i wz => ∃ kk : Nat, kk ≤ m ∧ i = .int .i64 kk ∧ (OwnSt wz w8.heap.size A5 m c5 qs ∧ ∀ p ∈ qs, (Mine w8 wz p.a.A p.a.n p.a.c ∧ Mine w8 wz p.b.A p.b.n p.b.c) ∧ p.a.n = g ∧ p.b.n = s) ∧ PlayM w wz g s pb rb bi br B iw R Fb Fr (fun _ => False) w) (fun i _ => m - (intOf i).toNat)
                      case atStart => exact ⟨0, by omega, rfl, T9.out, M9.out⟩
                      case round =>
                        clear T9 M9
                        obtain ⟨kk, hkk, rfl, hT, hM⟩ := hrel
                        have HT := Lib.hid hT
                        have HMM9 := Lib.hid hM
                        clear hM
                        by_cases hlt : kk < m
                        · obtain ⟨g5, hA5, hg5a, hg5⟩ := hT.1.block (by omega)
                          subst hA5
                          have hp := List.getElem?_eq_getElem (l := qs) (i := kk) (by rw [hT.1.length]; exact hlt)
                          obtain ⟨p, hpe⟩ : ∃ p, qs[kk]'(by rw [hT.1.length]; exact hlt) = p := ⟨_, rfl⟩
                          rw [hpe] at hp
                          have hmine := hT.2 p (List.mem_of_getElem? hp)
                          obtain ⟨hv1, hv2⟩ := vals_at qs kk p hp
                          have hc1 := (World.ownsRow.cellAt hT.1 (kk * 2) (by omega)).trans hv1
                          have hc2 := (World.ownsRow.cellAt hT.1 (kk * 2 + 1) (by omega)).trans hv2
                          obtain ⟨⟨pA, pn, pc, px⟩, ⟨sA, sn, sc, sx⟩⟩ := p
                          obtain ⟨⟨mi1, mi2⟩, z1, z2⟩ := hmine
                          simp only at z1 z2 mi1 mi2
                          obtain rfl : pn = g := z1
                          obtain rfl : sn = s := z2
                          have hc1' : wr.cell? ⟨g5, kk * 2, none⟩ = some (.slice pA pn pc) := hc1
                          have hc2' : wr.cell? ⟨g5, kk * 2 + 1, none⟩ = some (.slice sA sn sc) := hc2
                          have ka : Keep wr (wr.alloc (.cells #[.slice pA pn pc, .slice sA sn sc] 33)) := (Keep.refl wr).alloc _ _
                          have hbn := heap_alloc_new wr (.cells #[.slice pA pn pc, .slice sA sn sc] 33)
                          obtain ⟨q6, hq6⟩ : ∃ q6, wr.heap.size = q6 := ⟨_, rfl⟩
                          rw [hq6] at hbn
                          have d1 : (0 : Int) ≤ (kk : Int) := Int.natCast_nonneg _
                          have d2 : (kk : Int) < (m : Int) := by omega
                          have HLQ : Hid (kk < m) := hlt
                          have em : m ≤ 1000000 := HMM.out
                          have HMI := Lib.hid (And.intro (mi1.keep ka) (mi2.keep ka))
                          have HTA : Hid (OwnSt (wr.alloc (.cells #[.slice pA pn pc, .slice sA sn sc] 33)) w8.heap.size (some ⟨g5, 0, none⟩) m c5 qs ∧ ∀ p ∈ qs, (Mine w8 (wr.alloc (.cells #[.slice pA pn pc, .slice sA sn sc] 33)) p.a.A p.a.n p.a.c ∧ Mine w8 (wr.alloc (.cells #[.slice pA pn pc, .slice sA sn sc] 33)) p.b.A p.b.n p.b.c) ∧ p.a.n = pn ∧ p.b.n = sn) := ⟨hT.1.keep ka, fun p hp => by
                            obtain ⟨⟨a, b⟩, c⟩ := hT.2 p hp
                            exact ⟨⟨a.keep ka, b.keep ka⟩, c⟩⟩
                          have MA := Lib.hid (HMM9.out.later ka)
                          have HBN := Lib.hid hbn
                          clear hp hpe hv1 hv2 hc1 hc2 hT mi1 mi2 hlt ka hbn
                          go_upto_region 67 with fail
                          clear hc1' hc2'
                          try simp only [hq6]
                          generalize (wr.alloc (.cells #[.slice pA pn pc, .slice sA sn sc] 33)) = wa at *
                          have u0 : wa.cell? ⟨q6, 0, none⟩ = some (.slice pA pn pc) := cell_of_row _ _ _ _ _ _ HBN.out
                          have u1 : wa.cell? ⟨q6, 1, none⟩ = some (.slice sA sn sc) := cell_of_row _ _ _ _ _ _ HBN.out
                          obtain ⟨ga, va, rfl, hga, hva, cva, fva⟩ := HMI.out.1.at_ (show 0 < pn by have := HGS.out; omega)
                          obtain ⟨ua, hua⟩ : ∃ u, va ^^^ 255 = u := ⟨_, rfl⟩
                          obtain ⟨hxa, hua2⟩ := flip_int va ua hva hua
                          have TA : Hid (Turned (fun x => x = ga) wa (wa.setCell ⟨ga, 0, none⟩ (.int .u8 (ua : Int)))) := Turned.set (F := fun x => x = ga) wa ⟨ga, 0, none⟩ _ rfl
                          have mi2b := HMI.out.2.set ga 0 ua hua2
                          have hga6 : ¬ q6 = ga := by
                            obtain ⟨_, hox⟩ := HMI.out.1
                            intro e
                            rcases hox.1.2 with ⟨hv, _⟩ | ⟨g', cap, cur, hv, _, hh, _⟩
                            · cases hv
                            · injection hv with e1 _ _
                              have e3 : ga = g' := by injection e1 with e1; injection e1
                              subst e3
                              subst e
                              rw [HBN.out] at hh
                              simp at hh
                          have u1b := TA.out.cell u1 hga6
                          obtain ⟨gb, vb, rfl, hgb, hvb, cvb, fvb⟩ := mi2b.at_ (show 0 < sn by have := HGS.out; omega)
                          obtain ⟨ub, hub⟩ : ∃ u, vb ^^^ 255 = u := ⟨_, rfl⟩
                          obtain ⟨hxb, hub2⟩ := flip_int vb ub hvb hub
                          have TB : Hid (Turned (fun x => x = gb) (wa.setCell ⟨ga, 0, none⟩ (.int .u8 (ua : Int))) ((wa.setCell ⟨ga, 0, none⟩ (.int .u8 (ua : Int))).setCell ⟨gb, 0, none⟩ (.int .u8 (ub : Int)))) := Turned.set (F := fun x => x = gb) _ ⟨gb, 0, none⟩ _ rfl
                          have HFIN : Hid (OwnSt ((wa.setCell ⟨ga, 0, none⟩ (.int .u8 (ua : Int))).setCell ⟨gb, 0, none⟩ (.int .u8 (ub : Int))) w8.heap.size (some ⟨g5, 0, none⟩) m c5 qs ∧ ∀ p ∈ qs, (Mine w8 ((wa.setCell ⟨ga, 0, none⟩ (.int .u8 (ua : Int))).setCell ⟨gb, 0, none⟩ (.int .u8 (ub : Int))) p.a.A p.a.n p.a.c ∧ Mine w8 ((wa.setCell ⟨ga, 0, none⟩ (.int .u8 (ua : Int))).setCell ⟨gb, 0, none⟩ (.int .u8 (ub : Int))) p.b.A p.b.n p.b.c) ∧ p.a.n = pn ∧ p.b.n = sn) := by
                            obtain ⟨xa, hoa⟩ := HMI.out.1
                            obtain ⟨xb, hob⟩ := mi2b
                            have h1 : OwnSt (wa.setCell ⟨ga, 0, none⟩ (.int .u8 (ua : Int))) w8.heap.size (some ⟨g5, 0, none⟩) m c5 qs := HTA.out.1.turned TA.out fun x hx e => by subst e; exact stu_apart hoa HTA.out.1 x rfl hx
                            refine ⟨h1.turned TB.out fun x hx e => by subst e; exact stu_apart hob h1 x rfl hx, fun p hp => ?_⟩
                            obtain ⟨⟨a, b⟩, c⟩ := HTA.out.2 p hp
                            exact ⟨⟨(a.set ga 0 ua hua2).set gb 0 ub hub2, (b.set ga 0 ua hua2).set gb 0 ub hub2⟩, c⟩
                          have HMF : Hid (PlayM w ((wa.setCell ⟨ga, 0, none⟩ (.int .u8 (ua : Int))).setCell ⟨gb, 0, none⟩ (.int .u8 (ub : Int))) pn sn pb rb bi br B iw R Fb Fr (fun _ => False) w) := by
                            have hN : ∀ x, w8.heap.size ≤ x → w.heap.size ≤ x ∧ ¬ Fb x ∧ ¬ Fr x ∧ ¬ False := fun x hx => ⟨Nat.le_trans HM9.out.keep.size hx, fun e => by have := HM9.out.fb x e; omega, fun e => by have := HM9.out.ref.lt x e; omega, id⟩
                            exact (MA.out.other TA.out fun x e => by rw [e]; exact hN ga hga).other TB.out fun x e => by rw [e]; exact hN gb hgb
                          have e3 : (0 : Int) < (pn : Int) := by have := HGS.out; omega
                          have e4 : (0 : Int) < (sn : Int) := by have := HGS.out; omega
                          clear hua hub mi2b TA TB HMI HTA MA HMM9 HT
                          go_wp2_with fail
                          go_roundw
                          case rel => exact ⟨kk + 1, by have := HLQ.out; omega, by go_num, HFIN.out, HMF.out⟩
                          case measure => have := HLQ.out; simp [intOf]; omega
                        · obtain rfl : kk = m := by omega
                          go_wp2_with fail
                          go_roundw
                          case rel =>
                            exact ⟨k + 1, pb, B, iw, R, Fb, Fr, rfl, by have := HLT.out; omega, by go_num, HMM9.out, HS9.out⟩
                          case measure => have := HLT.out; simp [intOf]; omega
              · as_aux_lemma =>
                    obtain rfl : k = n := by omega
                    go_wp2_with fail
                    go_ret
                    exact ⟨rfl, HP.out.keep⟩
end Go.Proofs.Yticllkklbogcnaa
