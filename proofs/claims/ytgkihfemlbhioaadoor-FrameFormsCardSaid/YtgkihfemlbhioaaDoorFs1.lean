/- The document's own frames: SameTopo. -/
import Derived.Test.YtgkihfemlbhioaaDoorNew
import Derived.Test.YtgkihfemlbhioaaDoorFrm
import Derived.Test.YtgkihfemlbhioaaDoorRegion
import Derived.Test.YtgkihfemlbhioaaDoorQmid
import Derived.Test.YtgkihfemlbhioaaDoorFbx
namespace Go.Proofs.YtgkihfemlbhioaaDoor
open Go.RowKit Fr
set_option linter.unusedVariables false
set_option linter.unusedSimpArgs false
set_option maxRecDepth 100000 in
set_option maxHeartbeats 8000000 in
theorem rtopo_any (te te' : Nat) (u h u' h' : SlV) (up up' : List Bool) (hp hp' : List (List (Int × Int))) (w : World) (hU : UpsAt w w.heap.size u.A u.n up) (hU' : UpsAt w w.heap.size u'.A u'.n up') (hH : HopsAt w w.heap.size h.A h.n hp) (hH' : HopsAt w w.heap.size h'.A h'.n hp') (ok1 : u.ok) (ok2 : h.ok) (ok3 : u'.ok) (ok4 : h'.ok) :
    Calls Tryd.prog 28 #[.agg (topoCells te u h), .agg (topoCells te' u' h')] w fun e w' => e = .returned (.bool (decide (te = te' ∧ up = up' ∧ hp = hp'))) ∧ Keep w w' := by
  obtain ⟨Au, nu, cu⟩ := u
  obtain ⟨Ah, nh, ch⟩ := h
  obtain ⟨Bu, mu, du⟩ := u'
  obtain ⟨Bh, mh, dh⟩ := h'
  obtain ⟨o1, p1⟩ := ok1
  obtain ⟨o2, p2⟩ := ok2
  obtain ⟨o3, p3⟩ := ok3
  obtain ⟨o4, p4⟩ := ok4
  dsimp only at *
  obtain ⟨w2, hw2⟩ : ∃ w2, (w.alloc (.cells (topoCells te ⟨Au, nu, cu⟩ ⟨Ah, nh, ch⟩) 30)).alloc (.cells (topoCells te' ⟨Bu, mu, du⟩ ⟨Bh, mh, dh⟩) 30) = w2 := ⟨_, rfl⟩
  obtain ⟨k2, hbox⟩ := to_boxes w _ _ te te' _ _ _ _ hw2
  have hb0 := hbox w2 (Keep.refl w2)
  simp only [topoCells] at hw2
  obtain ⟨g, hg⟩ : ∃ g, w.heap.size = g := ⟨_, rfl⟩
  rw [hg] at hb0 hbox
  obtain ⟨⟨x1, x2, x3⟩, y1, y2, y3⟩ := hb0
  dsimp only at x2 x3 y2 y3
  have K2 := Lib.hid k2
  have HBOX := Lib.hid hbox
  have l1 := hU.length
  have l2 := hU'.length
  have l3 := hH.length
  have l4 := hH'.length
  have HU := Lib.hid hU
  have HU' := Lib.hid hU'
  have HH := Lib.hid hH
  have HH' := Lib.hid hH'
  clear k2 hbox hU hU' hH hH'
  simp only [topoCells]
  obtain ⟨q, hq⟩ : ∃ q, decide (te = te' ∧ up = up' ∧ hp = hp') = q := ⟨_, rfl⟩
  rw [hq]
  have HQ := Lib.hid hq
  clear hq
  have QN : Hid (¬ (te = te' ∧ up = up' ∧ hp = hp') → q = false) := fun e => by rw [← HQ.out]; exact decide_eq_false e
  have QY : Hid (te = te' ∧ up = up' ∧ hp = hp' → q = true) := fun e => by rw [← HQ.out]; exact decide_eq_true e
  clear HQ
  by_cases c1 : te = te'
  · subst c1
    have b1 : ((te : Int) != (te : Int)) = false := by simp
    by_cases c2 : nu = mu
    · subst c2
      by_cases c3 : nh = mh
      · subst c3
        go_enter Tryd.func28, Tryd.ntmps28
        go_wp2_with fail
        go_loopw [5] (fun iv wr => ∃ i : Nat, i ≤ nu ∧ iv = .int .i64 i ∧ (∀ k, k < i → up[k]? = up'[k]?) ∧ Keep w2 wr) (fun iv _ => nu - (intOf iv).toNat)
        case atStart => exact ⟨0, by omega, rfl, fun k hk => by omega, Keep.refl w2⟩
        case round =>
          obtain ⟨i, hi, rfl, hz, kp⟩ := hrel
          obtain ⟨⟨x1, x2, x3⟩, y1, y2, y3⟩ := HBOX.out wr kp
          dsimp only at x2 x3 y2 y3
          have HZ := Lib.hid hz
          have KP := Lib.hid kp
          clear hz
          have f1 : (0 : Int) ≤ (i : Int) := Int.natCast_nonneg _
          by_cases hlt : i < nu
          · have f2 : (i : Int) < (nu : Int) := by omega
            obtain ⟨a, ha⟩ := get_some l1 hlt
            obtain ⟨a', ha'⟩ := get_some l2 hlt
            obtain ⟨b, off, rfl, _, hc⟩ := (HU.out.keep (Nat.le_refl _) (K2.out.trans kp)).at_ ha
            obtain ⟨b', off', rfl, _, hc'⟩ := (HU'.out.keep (Nat.le_refl _) (K2.out.trans kp)).at_ ha'
            clear kp
            by_cases hab : a = a'
            · subst hab
              have HS : Hid (∀ k, k < i + 1 → up[k]? = up'[k]?) := fun k hk => by
                rcases Nat.lt_or_ge k i with h1 | h1
                · exact HZ.out k h1
                · obtain rfl : k = i := by omega
                  rw [ha, ha']
              clear ha ha'
              go_wp2_with fail
              go_quiet (fail)
              have KQ : Hid (Keep w2 (wr.drewN nq)) := KP.out.drewN nq
              go_wp2_with fail
              go_roundw
              case rel => exact ⟨i + 1, by omega, by go_num, HS.out, KQ.out⟩
              case measure => simp [intOf]; omega
            · have HN : Hid (q = false) := QN.out fun e => by
                rw [e.2.1, ha'] at ha
                injection ha with ha
                exact hab ha.symm
              have hx : (a != a') = true := by simpa using hab
              clear ha ha'
              cases a <;> cases a' <;> first | exact absurd rfl hab | skip
              all_goals
                go_wp2_with fail
                go_quiet (fail)
                have KQ : Hid (Keep w2 (wr.drewN nq)) := KP.out.drewN nq
                go_wp2_with fail
                go_ret
                exact ⟨by rw [HN.out]; rfl, K2.out.trans KQ.out⟩
          · obtain rfl : i = nu := by omega
            have hup : up = up' := list_eq l1 l2 HZ.out
            have HUP := Lib.hid hup
            clear hup kp
            go_wp2_with fail
            go_loopw [6] (fun iv w4 => ∃ i : Nat, i ≤ nh ∧ iv = .int .i64 i ∧ (∀ k, k < i → hp[k]? = hp'[k]?) ∧ Keep w2 w4) (fun iv _ => nh - (intOf iv).toNat)
            case atStart => exact ⟨0, by omega, rfl, fun k hk => by omega, KP.out⟩
            case round =>
              clear x1 x2 x3 y1 y2 y3 HZ KP
              obtain ⟨wz, rfl⟩ : ∃ wz, wz = wr := ⟨_, rfl⟩
              obtain ⟨i, hi, rfl, hz, kp⟩ := hrel
              obtain ⟨⟨x1, x2, x3⟩, y1, y2, y3⟩ := HBOX.out wz kp
              dsimp only at x2 x3 y2 y3
              have HZ := Lib.hid hz
              have KP := Lib.hid kp
              clear hz
              have f1 : (0 : Int) ≤ (i : Int) := Int.natCast_nonneg _
              by_cases hlt : i < nh
              · have f2 : (i : Int) < (nh : Int) := by omega
                obtain ⟨r, hr⟩ := get_some l3 hlt
                obtain ⟨r', hr'⟩ := get_some l4 hlt
                obtain ⟨b, off, ⟨As, ns, cs⟩, rfl, hbl, hc, hE, hs1, hs2⟩ := (HH.out.keep (Nat.le_refl _) (K2.out.trans kp)).at_ hr
                obtain ⟨b', off', ⟨As', ns', cs'⟩, rfl, hbl', hc', hE', hs1', hs2'⟩ := (HH'.out.keep (Nat.le_refl _) (K2.out.trans kp)).at_ hr'
                dsimp only at hc hE hs1 hs2 hc' hE' hs1' hs2'
                have q1 := hE.length
                have q2 := hE'.length
                have HE : Hid (∀ w', Keep wz w' → w'.cell? ⟨b, off + i, none⟩ = some (.slice As ns cs) ∧ w'.cell? ⟨b', off' + i, none⟩ = some (.slice As' ns' cs') ∧ EdgesAt w' w.heap.size As ns r ∧ EdgesAt w' w.heap.size As' ns' r') := fun w' kw => by
                  have hsz := (K2.out.trans kp).size
                  exact ⟨(World.cell?_of_block (kw.block b (by omega))).trans hc, (World.cell?_of_block (kw.block b' (by omega))).trans hc', hE.keep hsz kw, hE'.keep hsz kw⟩
                clear hE hE' kp
                by_cases hab : ns = ns'
                · subst hab
                  go_wp2_with fail
                  go_quiet (fail)
                  have KQ0 := (Keep.refl wz).drewN nq
                  have KQ : Hid (Keep wz (wz.drewN nq)) := KQ0
                  clear KQ0 hc hc' x1 x2 x3 y1 y2 y3
                  go_wp2_with fail
                  go_loopw [7] (fun iv w6 => ∃ k : Nat, k ≤ ns ∧ iv = .int .i64 k ∧ (∀ j, j < k → r[j]? = r'[j]?) ∧ Keep wz w6) (fun iv _ => ns - (intOf iv).toNat)
                  case atStart => exact ⟨0, by omega, rfl, fun k hk => by omega, KQ.out⟩
                  case round =>
                    clear KQ
                    obtain ⟨k, hk, rfl, hz, kp⟩ := hrel
                    obtain ⟨⟨x1, x2, x3⟩, y1, y2, y3⟩ := HBOX.out wr (KP.out.trans kp)
                    dsimp only at x2 x3 y2 y3
                    obtain ⟨v1, v2, v3, v4⟩ := HE.out wr kp
                    have HZ2 := Lib.hid hz
                    have KP2 := Lib.hid kp
                    clear hz kp
                    have j1 : (0 : Int) ≤ (k : Int) := Int.natCast_nonneg _
                    by_cases hkl : k < ns
                    · have j2 : (k : Int) < (ns : Int) := by omega
                      obtain ⟨⟨ea, eb⟩, he⟩ := get_some q1 hkl
                      obtain ⟨⟨ea', eb'⟩, he'⟩ := get_some q2 hkl
                      obtain ⟨p, o, rfl, _, s1, s2⟩ := v3.at_ he
                      obtain ⟨p', o', rfl, _, s1', s2'⟩ := v4.at_ he'
                      dsimp only at s1 s2 s1' s2'
                      have R1 := Lib.hid (range_two s1 s2)
                      have R2 := Lib.hid (range_two s1' s2')
                      clear s1 s2 s1' s2'
                      by_cases e1 : ea = ea'
                      · subst e1
                        by_cases e2 : eb = eb'
                        · subst e2
                          have HS2 : Hid (∀ j, j < k + 1 → r[j]? = r'[j]?) := fun j hj => by
                            rcases Nat.lt_or_ge j k with h1 | h1
                            · exact HZ2.out j h1
                            · obtain rfl : j = k := by omega
                              rw [he, he']
                          clear he he'
                          go_wp2_with fail
                          refine wp_region_quiet_lit (by kernel_rfl) (by kernel_rfl) ?_
                          iterate 7 go_big_quiet_step (fail)
                          refine BigFrame.wpQuiet_want (by rfl) ?_
                          intro K hK
                          refine quiet_load_mid _ _ rfl p (o + k * 2) ?hx [.int .i64 ea, .int .i64 eb] _ (fun w' hw' => by obtain ⟨n', rfl⟩ := hw'; exact range_drewN R1.out n') Tryd.underlying57 rfl (by kernel_rfl) ?_
                          case hx => rfl
                          simp only [Act.put, List.setIfInBounds_toArray, List.set_cons_zero, List.set_cons_succ]
                          go_big_quiet_on
                          iterate 7 go_big_quiet_step (fail)
                          refine BigFrame.wpQuiet_want (by rfl) ?_
                          intro K hK
                          refine quiet_load_mid _ _ rfl p' (o' + k * 2) ?hx [.int .i64 ea, .int .i64 eb] _ (fun w' hw' => by obtain ⟨n', rfl⟩ := hw'; exact range_drewN R2.out n') Tryd.underlying57 rfl (by kernel_rfl) ?_
                          case hx => rfl
                          simp only [Act.put, List.setIfInBounds_toArray, List.set_cons_zero, List.set_cons_succ]
                          go_big_quiet_on
                          go_big_quiet_step (fail)
                          refine wpQuiet_nil ?_
                          intro _ hw'
                          obtain ⟨nq, rfl⟩ := hw'
                          have KQ2 : Hid (Keep wz (wr.drewN nq)) := KP2.out.drewN nq
                          have KQ3 : Hid (Keep w (wr.drewN nq)) := (K2.out.trans KP.out).trans KQ2.out
                          go_wp2_with fail
                          go_roundw
                          case rel => exact ⟨k + 1, by omega, by go_num, HS2.out, KQ2.out⟩
                          case measure => simp [intOf]; omega
                        · have HN : Hid (q = false) := QN.out fun e => by
                            rw [e.2.2, hr'] at hr
                            injection hr with hr
                            rw [← hr, he'] at he
                            injection he with he
                            injection he with q1 q2
                            exact e2 q2.symm
                          clear he he'
                          go_wp2_with fail
                          refine wp_region_quiet_lit (by kernel_rfl) (by kernel_rfl) ?_
                          iterate 7 go_big_quiet_step (fail)
                          refine BigFrame.wpQuiet_want (by rfl) ?_
                          intro K hK
                          refine quiet_load_mid _ _ rfl p (o + k * 2) ?hx [.int .i64 ea, .int .i64 eb] _ (fun w' hw' => by obtain ⟨n', rfl⟩ := hw'; exact range_drewN R1.out n') Tryd.underlying57 rfl (by kernel_rfl) ?_
                          case hx => rfl
                          simp only [Act.put, List.setIfInBounds_toArray, List.set_cons_zero, List.set_cons_succ]
                          go_big_quiet_on
                          iterate 7 go_big_quiet_step (fail)
                          refine BigFrame.wpQuiet_want (by rfl) ?_
                          intro K hK
                          refine quiet_load_mid _ _ rfl p' (o' + k * 2) ?hx [.int .i64 ea, .int .i64 eb'] _ (fun w' hw' => by obtain ⟨n', rfl⟩ := hw'; exact range_drewN R2.out n') Tryd.underlying57 rfl (by kernel_rfl) ?_
                          case hx => rfl
                          simp only [Act.put, List.setIfInBounds_toArray, List.set_cons_zero, List.set_cons_succ]
                          go_big_quiet_on
                          go_big_quiet_step (fail)
                          refine wpQuiet_nil ?_
                          intro _ hw'
                          obtain ⟨nq, rfl⟩ := hw'
                          have KQ2 : Hid (Keep wz (wr.drewN nq)) := KP2.out.drewN nq
                          have KQ3 : Hid (Keep w (wr.drewN nq)) := (K2.out.trans KP.out).trans KQ2.out
                          go_wp2_with fail
                          go_ret
                          exact ⟨by rw [HN.out]; rfl, KQ3.out⟩
                      · have HN : Hid (q = false) := QN.out fun e => by
                          rw [e.2.2, hr'] at hr
                          injection hr with hr
                          rw [← hr, he'] at he
                          injection he with he
                          injection he with q1 q2
                          exact e1 q1.symm
                        clear he he'
                        go_wp2_with fail
                        refine wp_region_quiet_lit (by kernel_rfl) (by kernel_rfl) ?_
                        iterate 7 go_big_quiet_step (fail)
                        refine BigFrame.wpQuiet_want (by rfl) ?_
                        intro K hK
                        refine quiet_load_mid _ _ rfl p (o + k * 2) ?hx [.int .i64 ea, .int .i64 eb] _ (fun w' hw' => by obtain ⟨n', rfl⟩ := hw'; exact range_drewN R1.out n') Tryd.underlying57 rfl (by kernel_rfl) ?_
                        case hx => rfl
                        simp only [Act.put, List.setIfInBounds_toArray, List.set_cons_zero, List.set_cons_succ]
                        go_big_quiet_on
                        iterate 7 go_big_quiet_step (fail)
                        refine BigFrame.wpQuiet_want (by rfl) ?_
                        intro K hK
                        refine quiet_load_mid _ _ rfl p' (o' + k * 2) ?hx [.int .i64 ea', .int .i64 eb'] _ (fun w' hw' => by obtain ⟨n', rfl⟩ := hw'; exact range_drewN R2.out n') Tryd.underlying57 rfl (by kernel_rfl) ?_
                        case hx => rfl
                        simp only [Act.put, List.setIfInBounds_toArray, List.set_cons_zero, List.set_cons_succ]
                        go_big_quiet_on
                        go_big_quiet_step (fail)
                        refine wpQuiet_nil ?_
                        intro _ hw'
                        obtain ⟨nq, rfl⟩ := hw'
                        have KQ2 : Hid (Keep wz (wr.drewN nq)) := KP2.out.drewN nq
                        have KQ3 : Hid (Keep w (wr.drewN nq)) := (K2.out.trans KP.out).trans KQ2.out
                        go_wp2_with fail
                        go_ret
                        exact ⟨by rw [HN.out]; rfl, KQ3.out⟩
                    · obtain rfl : k = ns := by omega
                      have hrr : r = r' := list_eq q1 q2 HZ2.out
                      have HS : Hid (∀ j, j < i + 1 → hp[j]? = hp'[j]?) := fun j hj => by
                        rcases Nat.lt_or_ge j i with h1 | h1
                        · exact HZ.out j h1
                        · obtain rfl : j = i := by omega
                          rw [hr, hr', hrr]
                      have KE : Hid (Keep w2 wr) := KP.out.trans KP2.out
                      clear hrr hr hr' v3 v4
                      go_wp2_with fail
                      go_roundw
                      case rel => exact ⟨i + 1, by omega, by go_num, HS.out, KE.out⟩
                      case measure => simp [intOf]; omega
                · have HN : Hid (q = false) := QN.out fun e => by
                    rw [e.2.2, hr'] at hr
                    injection hr with hr
                    rw [← hr] at q1
                    exact hab (q1.symm.trans q2)
                  have b2 : ((ns : Int) != (ns' : Int)) = true := by rw [bne_iff_ne]; omega
                  clear hr hr'
                  go_wp2_with fail
                  go_quiet (fail)
                  have KQ : Hid (Keep w (wz.drewN nq)) := (K2.out.trans KP.out).drewN nq
                  go_wp2_with fail
                  go_ret
                  exact ⟨by rw [HN.out]; rfl, KQ.out⟩
              · obtain rfl : i = nh := by omega
                have HY : Hid (q = true) := QY.out ⟨(by first | trivial | rfl), HUP.out, list_eq l3 l4 HZ.out⟩
                have KE : Hid (Keep w wz) := K2.out.trans kp
                clear kp
                go_wp2_with fail
                go_ret
                exact ⟨by rw [HY.out]; rfl, KE.out⟩
      · have HN : Hid (q = false) := QN.out fun e => by
          rw [← e.2.2] at l4
          omega
        have b3 : ((nh : Int) != (mh : Int)) = true := by rw [bne_iff_ne]; omega
        go_enter Tryd.func28, Tryd.ntmps28
        go_wp2_with fail
        go_ret
        exact ⟨by rw [HN.out]; rfl, K2.out⟩
    · have HN : Hid (q = false) := QN.out fun e => by
        rw [← e.2.1] at l2
        omega
      have b3 : ((nu : Int) != (mu : Int)) = true := by rw [bne_iff_ne]; omega
      go_enter Tryd.func28, Tryd.ntmps28
      go_wp2_with fail
      go_ret
      exact ⟨by rw [HN.out]; rfl, K2.out⟩
  · have HN : Hid (q = false) := QN.out fun e => c1 e.1
    have b3 : ((te : Int) != (te' : Int)) = true := by rw [bne_iff_ne]; omega
    go_enter Tryd.func28, Tryd.ntmps28
    go_wp2_with fail
    go_ret
    exact ⟨by rw [HN.out]; rfl, K2.out⟩
end Go.Proofs.YtgkihfemlbhioaaDoor
