/- The document's own frames: Same. -/
import Derived.Test.YtgkihfemlbhioaaDoorFs1
namespace Go.Proofs.YtgkihfemlbhioaaDoor
open Go.RowKit Fr
set_option linter.unusedVariables false
set_option linter.unusedSimpArgs false
set_option maxRecDepth 100000 in
set_option maxHeartbeats 16000000 in
theorem rsame_any (m m' : FrM) (f f' : FrV) (w : World) (hf : FrIn w w.heap.size m f) (hf' : FrIn w w.heap.size m' f') :
    Calls Tryd.prog 13 #[.agg (frCells m f), .agg (frCells m' f')] w fun e w' => e = .returned (.bool (decide (f = f'))) ∧ Keep w w' := by
  obtain ⟨w2, hw2⟩ : ∃ w2, (w.alloc (.cells (frCells m f) 32)).alloc (.cells (frCells m' f') 32) = w2 := ⟨_, rfl⟩
  obtain ⟨k2, hbox⟩ := fr_boxes w _ _ m m' f f' hw2
  have HI := Lib.hid hf
  have HI' := Lib.hid hf'
  have s1 := run_str (hf.co.keep (Nat.le_refl _) k2) Tryd.underlying23 Tryd.underlying5 Tryd.underlying9 m.co.c
  have s2 := run_str (hf'.co.keep (Nat.le_refl _) k2) Tryd.underlying23 Tryd.underlying5 Tryd.underlying9 m'.co.c
  have s3 := run_str (hf.pay.keep (Nat.le_refl _) k2) Tryd.underlying23 Tryd.underlying5 Tryd.underlying9 m.pay.c
  have s4 := run_str (hf'.pay.keep (Nat.le_refl _) k2) Tryd.underlying23 Tryd.underlying5 Tryd.underlying9 m'.pay.c
  have AC := Lib.hid (And.intro (And.intro hf.co.all hf'.co.all) (And.intro hf.pay.all hf'.pay.all))
  have l1 := hf.rk.length
  have l2 := hf'.rk.length
  have on1 := hf.oks.2.2.1
  have on2 := hf'.oks.2.2.1
  clear hf hf'
  obtain ⟨k, s, d, ep, lf, fl, gn, sq, fo, co, pay, rk, te, up, hp⟩ := f
  obtain ⟨k', s', d', ep', lf', fl', gn', sq', fo', co', pay', rk', te', up', hp'⟩ := f'
  obtain ⟨⟨Ac, nc, cc⟩, ⟨Ap, np, cp⟩, ⟨Ar, nr, cr⟩, ⟨Au, nu, cu⟩, ⟨Ah, nh, ch⟩⟩ := m
  obtain ⟨⟨Bc, mc, dc⟩, ⟨Bp, mp, dp⟩, ⟨Br, mr, dr⟩, ⟨Bu, mu, du⟩, ⟨Bh, mh, dh⟩⟩ := m'
  obtain ⟨⟨⟨x0, x1, x2, x3, x4⟩, ⟨x5, x6, x7, x8⟩, ⟨x9, x10, x11⟩, x12, x13, x14⟩, ⟨⟨y0, y1, y2, y3, y4⟩, ⟨y5, y6, y7, y8⟩, ⟨y9, y10, y11⟩, y12, y13, y14⟩⟩ := And.intro (hbox w2 (Keep.refl w2)).1.cells (hbox w2 (Keep.refl w2)).2.cells
  simp only [frCells] at hw2
  obtain ⟨g, hg⟩ : ∃ g, w.heap.size = g := ⟨_, rfl⟩
  rw [hg] at hbox x0 x1 x2 x3 x4 x5 x6 x7 x8 x9 x10 x11 x12 x13 x14 y0 y1 y2 y3 y4 y5 y6 y7 y8 y9 y10 y11 y12 y13 y14
  dsimp only at *
  obtain ⟨on1, oc1⟩ := on1
  obtain ⟨on2, oc2⟩ := on2
  dsimp only at on1 oc1 on2 oc2
  have K2 := Lib.hid k2
  have HBOX := Lib.hid hbox
  clear k2 hbox
  simp only [frCells]
  obtain ⟨q, hq⟩ : ∃ q, decide ((⟨k, s, d, ep, lf, fl, gn, sq, fo, co, pay, rk, te, up, hp⟩ : FrV) = ⟨k', s', d', ep', lf', fl', gn', sq', fo', co', pay', rk', te', up', hp'⟩) = q := ⟨_, rfl⟩
  rw [hq]
  have HQ := Lib.hid hq
  clear hq
  by_cases c0 : k = k'
  · subst c0
    by_cases c1 : s = s'
    · subst c1
      by_cases c2 : d = d'
      · subst c2
        by_cases c3 : ep = ep'
        · subst c3
          by_cases c4 : lf = lf'
          · subst c4
            by_cases c5 : fl = fl'
            · subst c5
              by_cases c6 : gn = gn'
              · subst c6
                by_cases c7 : sq = sq'
                · subst c7
                  by_cases c8 : fo = fo'
                  · subst c8
                    by_cases c9 : co = co'
                    · subst c9
                      by_cases c10 : pay = pay'
                      · subst c10
                        by_cases c11 : nr = mr
                        · subst c11
                          go_enter Tryd.func13, Tryd.ntmps13
                          go_wp2_with fail
                          clear s1 s2 s3 s4 AC x0 x1 x2 x3 x4 x5 x6 x7 x8 x9 x10 x11 x12 x13 x14 y0 y1 y2 y3 y4 y5 y6 y7 y8 y9 y10 y11 y12 y13 y14
                          go_loopw [5] (fun iv wr => ∃ i : Nat, i ≤ nr ∧ iv = .int .i64 i ∧ (∀ j, j < i → rk[j]? = rk'[j]?) ∧ Keep w2 wr) (fun iv _ => nr - (intOf iv).toNat)
                          case atStart => exact ⟨0, by omega, rfl, fun k hk => by omega, Keep.refl w2⟩
                          case round =>
                            obtain ⟨i, hi, rfl, hz, kp⟩ := hrel
                            obtain ⟨⟨⟨_, _, _, _, _⟩, ⟨_, _, _, _⟩, ⟨_, _, x11⟩, x12, x13, x14⟩, ⟨⟨_, _, _, _, _⟩, ⟨_, _, _, _⟩, ⟨_, _, y11⟩, y12, y13, y14⟩⟩ := And.intro (HBOX.out wr kp).1.cells (HBOX.out wr kp).2.cells
                            dsimp only at x11 x12 x13 x14 y11 y12 y13 y14
                            have HZ := Lib.hid hz
                            have KP := Lib.hid kp
                            clear hz
                            have f1 : (0 : Int) ≤ (i : Int) := Int.natCast_nonneg _
                            by_cases hlt : i < nr
                            · have f2 : (i : Int) < (nr : Int) := by omega
                              obtain ⟨⟨ea, eb⟩, he⟩ := get_some l1 hlt
                              obtain ⟨⟨ea', eb'⟩, he'⟩ := get_some l2 hlt
                              obtain ⟨p, o, e1, _, s1, s2⟩ := (HI.out.rk.keep (Nat.le_refl _) (K2.out.trans kp)).at_ he
                              obtain ⟨p', o', e2, _, s1', s2'⟩ := (HI'.out.rk.keep (Nat.le_refl _) (K2.out.trans kp)).at_ he'
                              dsimp only at s1 s2 s1' s2' e1 e2
                              subst e1; subst e2
                              have R1 := Lib.hid (range_two s1 s2)
                              have R2 := Lib.hid (range_two s1' s2')
                              clear s1 s2 s1' s2' kp
                              by_cases e1 : ea = ea'
                              · subst e1
                                by_cases e2 : eb = eb'
                                · subst e2
                                  have HS : Hid (∀ j, j < i + 1 → rk[j]? = rk'[j]?) := fun j hj => by
                                    rcases Nat.lt_or_ge j i with h1 | h1
                                    · exact HZ.out j h1
                                    · obtain rfl : j = i := by omega
                                      rw [he, he']
                                  clear he he'
                                  go_wp2_with fail
                                  refine wp_region_quiet_lit (by kernel_rfl) (by kernel_rfl) ?_
                                  iterate 4 go_big_quiet_step (fail)
                                  refine BigFrame.wpQuiet_want (by rfl) ?_
                                  intro K hK
                                  refine quiet_load_mid _ _ rfl p (o + i * 2) ?hx [.int .u64 (ea : Int), .int .i64 eb] _ (fun w' hw' => by obtain ⟨n', rfl⟩ := hw'; exact range_drewN R1.out n') Tryd.underlying53 rfl (by kernel_rfl) ?_
                                  case hx => rfl
                                  simp only [Act.put, List.setIfInBounds_toArray, List.set_cons_zero, List.set_cons_succ]
                                  go_big_quiet_on
                                  iterate 4 go_big_quiet_step (fail)
                                  refine BigFrame.wpQuiet_want (by rfl) ?_
                                  intro K hK
                                  refine quiet_load_mid _ _ rfl p' (o' + i * 2) ?hx [.int .u64 (ea : Int), .int .i64 eb] _ (fun w' hw' => by obtain ⟨n', rfl⟩ := hw'; exact range_drewN R2.out n') Tryd.underlying53 rfl (by kernel_rfl) ?_
                                  case hx => rfl
                                  simp only [Act.put, List.setIfInBounds_toArray, List.set_cons_zero, List.set_cons_succ]
                                  go_big_quiet_on
                                  go_big_quiet_step (fail)
                                  refine wpQuiet_nil ?_
                                  intro _ hw'
                                  obtain ⟨nq, rfl⟩ := hw'
                                  have KQ2 : Hid (Keep w2 (wr.drewN nq)) := KP.out.drewN nq
                                  go_wp2_with fail
                                  go_roundw
                                  case rel => exact ⟨i + 1, by omega, by go_num, HS.out, KQ2.out⟩
                                  case measure => simp [intOf]; omega
                                · have HN : Hid (q = false) := by
                                    show q = false
                                    rw [← HQ.out]; exact decide_eq_false fun e => by injection e with z0 z1 z2 z3 z4 z5 z6 z7 z8 z9 z10 z11 z12 z13 z14; rw [← z11, he] at he'; injection he' with he'; injection he' with v1 v2; exact e2 v2
                                  clear he he'
                                  go_wp2_with fail
                                  refine wp_region_quiet_lit (by kernel_rfl) (by kernel_rfl) ?_
                                  iterate 4 go_big_quiet_step (fail)
                                  refine BigFrame.wpQuiet_want (by rfl) ?_
                                  intro K hK
                                  refine quiet_load_mid _ _ rfl p (o + i * 2) ?hx [.int .u64 (ea : Int), .int .i64 eb] _ (fun w' hw' => by obtain ⟨n', rfl⟩ := hw'; exact range_drewN R1.out n') Tryd.underlying53 rfl (by kernel_rfl) ?_
                                  case hx => rfl
                                  simp only [Act.put, List.setIfInBounds_toArray, List.set_cons_zero, List.set_cons_succ]
                                  go_big_quiet_on
                                  iterate 4 go_big_quiet_step (fail)
                                  refine BigFrame.wpQuiet_want (by rfl) ?_
                                  intro K hK
                                  refine quiet_load_mid _ _ rfl p' (o' + i * 2) ?hx [.int .u64 (ea : Int), .int .i64 eb'] _ (fun w' hw' => by obtain ⟨n', rfl⟩ := hw'; exact range_drewN R2.out n') Tryd.underlying53 rfl (by kernel_rfl) ?_
                                  case hx => rfl
                                  simp only [Act.put, List.setIfInBounds_toArray, List.set_cons_zero, List.set_cons_succ]
                                  go_big_quiet_on
                                  go_big_quiet_step (fail)
                                  refine wpQuiet_nil ?_
                                  intro _ hw'
                                  obtain ⟨nq, rfl⟩ := hw'
                                  have KQ2 : Hid (Keep w2 (wr.drewN nq)) := KP.out.drewN nq
                                  go_wp2_with fail
                                  go_ret
                                  exact ⟨by rw [HN.out]; rfl, K2.out.trans KQ2.out⟩
                              · have ne : ((ea : Int) = (ea' : Int)) = False := eq_false (by omega)
                                have HN : Hid (q = false) := by
                                  show q = false
                                  rw [← HQ.out]; exact decide_eq_false fun e => by injection e with z0 z1 z2 z3 z4 z5 z6 z7 z8 z9 z10 z11 z12 z13 z14; rw [← z11, he] at he'; injection he' with he'; injection he' with v1 v2; exact e1 v1
                                clear he he'
                                go_wp2_with fail
                                refine wp_region_quiet_lit (by kernel_rfl) (by kernel_rfl) ?_
                                iterate 4 go_big_quiet_step (fail)
                                refine BigFrame.wpQuiet_want (by rfl) ?_
                                intro K hK
                                refine quiet_load_mid _ _ rfl p (o + i * 2) ?hx [.int .u64 (ea : Int), .int .i64 eb] _ (fun w' hw' => by obtain ⟨n', rfl⟩ := hw'; exact range_drewN R1.out n') Tryd.underlying53 rfl (by kernel_rfl) ?_
                                case hx => rfl
                                simp only [Act.put, List.setIfInBounds_toArray, List.set_cons_zero, List.set_cons_succ]
                                go_big_quiet_on
                                iterate 4 go_big_quiet_step (fail)
                                refine BigFrame.wpQuiet_want (by rfl) ?_
                                intro K hK
                                refine quiet_load_mid _ _ rfl p' (o' + i * 2) ?hx [.int .u64 (ea' : Int), .int .i64 eb'] _ (fun w' hw' => by obtain ⟨n', rfl⟩ := hw'; exact range_drewN R2.out n') Tryd.underlying53 rfl (by kernel_rfl) ?_
                                case hx => rfl
                                simp only [Act.put, List.setIfInBounds_toArray, List.set_cons_zero, List.set_cons_succ]
                                go_big_quiet_on
                                go_big_quiet_step (fail)
                                refine wpQuiet_nil ?_
                                intro _ hw'
                                obtain ⟨nq, rfl⟩ := hw'
                                have KQ2 : Hid (Keep w2 (wr.drewN nq)) := KP.out.drewN nq
                                go_wp2_with fail
                                go_ret
                                exact ⟨by rw [HN.out]; rfl, K2.out.trans KQ2.out⟩
                            · obtain rfl : i = nr := by omega
                              have hrk := Lib.hid (list_eq l1 l2 HZ.out)
                              have r1 := run_loadAt_mid (P := Tryd.prog) wr g 12 30 [.int .u64 (te : Int), .slice Au nu cu, .slice Ah nh ch] _ (range_three x12 x13 x14) Tryd.underlying30 rfl (by kernel_rfl)
                              have r2 := run_loadAt_mid (P := Tryd.prog) wr (g + 1) 12 30 [.int .u64 (te' : Int), .slice Bu mu du, .slice Bh mh dh] _ (range_three y12 y13 y14) Tryd.underlying30 rfl (by kernel_rfl)
                              have HT := Lib.hid (rtopo_any te te' ⟨Au, nu, cu⟩ ⟨Ah, nh, ch⟩ ⟨Bu, mu, du⟩ ⟨Bh, mh, dh⟩ up up' hp hp' wr ((HI.out.later (K2.out.trans kp)).up) ((HI'.out.later (K2.out.trans kp)).up) ((HI.out.later (K2.out.trans kp)).hp) ((HI'.out.later (K2.out.trans kp)).hp) HI.out.oks.2.2.2.1 HI.out.oks.2.2.2.2 HI'.out.oks.2.2.2.1 HI'.out.oks.2.2.2.2)
                              have HE : Hid (decide (te = te' ∧ up = up' ∧ hp = hp') = q) := by
                                show _ = q
                                rw [← HQ.out]
                                have z1 := hrk.out
                                refine decide_eq_decide.2 ⟨fun ⟨a, b, c⟩ => by rw [z1, a, b, c], fun e => ?_⟩
                                injection e with z20 z21 z22 z23 z24 z25 z26 z27 z28 z29 z30 z31 z32 z33 z34
                                exact ⟨z32, z33, z34⟩
                              clear kp HQ
                              go_wp2_with fail
                              refine HT.out.mono ?_
                              rw [HE.out]
                              rintro e w9 ⟨rfl, k9⟩
                              have K9 := Lib.hid (K2.out.trans (KP.out.trans k9))
                              clear k9
                              go_wp2_with fail
                              go_ret
                              exact ⟨rfl, K9.out⟩
                        · have HN : Hid (q = false) := by
                            show q = false
                            rw [← HQ.out]; exact decide_eq_false fun e => by injection e with e0 e1 e2 e3 e4 e5 e6 e7 e8 e9 e10 e11 e12 e13 e14; rw [← e11] at l2; exact c11 (l1.symm.trans l2)
                          have b : ((nr : Int) != (mr : Int)) = true := by rw [bne_iff_ne]; omega
                          clear HQ AC
                          go_enter Tryd.func13, Tryd.ntmps13
                          go_wp2_with fail
                          go_ret
                          exact ⟨by rw [HN.out]; rfl, K2.out⟩
                      · have HN : Hid (q = false) := by
                          show q = false
                          rw [← HQ.out]; exact decide_eq_false fun e => by injection e with e0 e1 e2 e3 e4 e5 e6 e7 e8 e9 e10 e11 e12 e13 e14; exact c10 e10
                        have t10 : ¬ (strN pay).toList = (strN pay').toList := fun e => c10 (strN_inj AC.out.2.1 AC.out.2.2 (toList_inj e))
                        clear c10
                        clear HQ AC
                        go_enter Tryd.func13, Tryd.ntmps13
                        go_wp2_with fail
                        go_ret
                        exact ⟨by rw [HN.out]; rfl, K2.out⟩
                    · have HN : Hid (q = false) := by
                        show q = false
                        rw [← HQ.out]; exact decide_eq_false fun e => by injection e with e0 e1 e2 e3 e4 e5 e6 e7 e8 e9 e10 e11 e12 e13 e14; exact c9 e9
                      have t9 : ¬ (strN co).toList = (strN co').toList := fun e => c9 (strN_inj AC.out.1.1 AC.out.1.2 (toList_inj e))
                      clear c9
                      clear HQ AC
                      go_enter Tryd.func13, Tryd.ntmps13
                      go_wp2_with fail
                      go_ret
                      exact ⟨by rw [HN.out]; rfl, K2.out⟩
                  · have HN : Hid (q = false) := by
                      show q = false
                      rw [← HQ.out]; exact decide_eq_false fun e => by injection e with e0 e1 e2 e3 e4 e5 e6 e7 e8 e9 e10 e11 e12 e13 e14; exact c8 e8
                    have b : ((fo : Int) != (fo' : Int)) = true := by rw [bne_iff_ne]; omega
                    clear HQ AC s1 s2 s3 s4
                    go_enter Tryd.func13, Tryd.ntmps13
                    go_wp2_with fail
                    go_ret
                    exact ⟨by rw [HN.out]; rfl, K2.out⟩
                · have HN : Hid (q = false) := by
                    show q = false
                    rw [← HQ.out]; exact decide_eq_false fun e => by injection e with e0 e1 e2 e3 e4 e5 e6 e7 e8 e9 e10 e11 e12 e13 e14; exact c7 e7
                  have b : ((sq : Int) != (sq' : Int)) = true := by rw [bne_iff_ne]; omega
                  clear HQ AC s1 s2 s3 s4
                  go_enter Tryd.func13, Tryd.ntmps13
                  go_wp2_with fail
                  go_ret
                  exact ⟨by rw [HN.out]; rfl, K2.out⟩
              · have HN : Hid (q = false) := by
                  show q = false
                  rw [← HQ.out]; exact decide_eq_false fun e => by injection e with e0 e1 e2 e3 e4 e5 e6 e7 e8 e9 e10 e11 e12 e13 e14; exact c6 e6
                have b : ((gn : Int) != (gn' : Int)) = true := by rw [bne_iff_ne]; omega
                clear HQ AC s1 s2 s3 s4
                go_enter Tryd.func13, Tryd.ntmps13
                go_wp2_with fail
                go_ret
                exact ⟨by rw [HN.out]; rfl, K2.out⟩
            · have HN : Hid (q = false) := by
                show q = false
                rw [← HQ.out]; exact decide_eq_false fun e => by injection e with e0 e1 e2 e3 e4 e5 e6 e7 e8 e9 e10 e11 e12 e13 e14; exact c5 e5
              have b : (fl != fl') = true := by rw [bne_iff_ne]; exact c5
              clear HQ AC s1 s2 s3 s4
              go_enter Tryd.func13, Tryd.ntmps13
              go_wp2_with fail
              go_ret
              exact ⟨by rw [HN.out]; rfl, K2.out⟩
          · have HN : Hid (q = false) := by
              show q = false
              rw [← HQ.out]; exact decide_eq_false fun e => by injection e with e0 e1 e2 e3 e4 e5 e6 e7 e8 e9 e10 e11 e12 e13 e14; exact c4 e4
            have b : ((lf : Int) != (lf' : Int)) = true := by rw [bne_iff_ne]; omega
            clear HQ AC s1 s2 s3 s4
            go_enter Tryd.func13, Tryd.ntmps13
            go_wp2_with fail
            go_ret
            exact ⟨by rw [HN.out]; rfl, K2.out⟩
        · have HN : Hid (q = false) := by
            show q = false
            rw [← HQ.out]; exact decide_eq_false fun e => by injection e with e0 e1 e2 e3 e4 e5 e6 e7 e8 e9 e10 e11 e12 e13 e14; exact c3 e3
          have b : ((ep : Int) != (ep' : Int)) = true := by rw [bne_iff_ne]; omega
          clear HQ AC s1 s2 s3 s4
          go_enter Tryd.func13, Tryd.ntmps13
          go_wp2_with fail
          go_ret
          exact ⟨by rw [HN.out]; rfl, K2.out⟩
      · have HN : Hid (q = false) := by
          show q = false
          rw [← HQ.out]; exact decide_eq_false fun e => by injection e with e0 e1 e2 e3 e4 e5 e6 e7 e8 e9 e10 e11 e12 e13 e14; exact c2 e2
        have b : (d != d') = true := by rw [bne_iff_ne]; exact c2
        clear HQ AC s1 s2 s3 s4
        go_enter Tryd.func13, Tryd.ntmps13
        go_wp2_with fail
        go_ret
        exact ⟨by rw [HN.out]; rfl, K2.out⟩
    · have HN : Hid (q = false) := by
        show q = false
        rw [← HQ.out]; exact decide_eq_false fun e => by injection e with e0 e1 e2 e3 e4 e5 e6 e7 e8 e9 e10 e11 e12 e13 e14; exact c1 e1
      have b : (s != s') = true := by rw [bne_iff_ne]; exact c1
      clear HQ AC s1 s2 s3 s4
      go_enter Tryd.func13, Tryd.ntmps13
      go_wp2_with fail
      go_ret
      exact ⟨by rw [HN.out]; rfl, K2.out⟩
  · have HN : Hid (q = false) := by
      show q = false
      rw [← HQ.out]; exact decide_eq_false fun e => by injection e with e0 e1 e2 e3 e4 e5 e6 e7 e8 e9 e10 e11 e12 e13 e14; exact c0 e0
    have b : (k != k') = true := by rw [bne_iff_ne]; exact c0
    clear HQ AC s1 s2 s3 s4
    go_enter Tryd.func13, Tryd.ntmps13
    go_wp2_with fail
    go_ret
    exact ⟨by rw [HN.out]; rfl, K2.out⟩
end Go.Proofs.YtgkihfemlbhioaaDoor
