/- The document's own frames: mayTopo. -/
import Derived.Test.YtgkihfemlbhioaaDoorFs2
namespace Go.Proofs.YtgkihfemlbhioaaDoor
open Go.RowKit Fr
set_option linter.unusedVariables false
set_option linter.unusedSimpArgs false
set_option maxRecDepth 100000 in
set_option maxHeartbeats 16000000 in
theorem rmayto_any (te : Nat) (u h : SlV) (up : List Bool) (hp : List (List (Int × Int))) (w : World) (hU : UpsAt w w.heap.size u.A u.n up) (hH : HopsAt w w.heap.size h.A h.n hp) (ok1 : u.ok) (ok2 : h.ok) :
    Calls Tryd.prog 33 #[.agg (topoCells te u h)] w fun e w' => e = .returned (.bool (decide (TopoOk te up hp))) ∧ Keep w w' := by
  obtain ⟨Au, nu, cu⟩ := u
  obtain ⟨Ah, nh, ch⟩ := h
  obtain ⟨o1, p1⟩ := ok1
  obtain ⟨o2, p2⟩ := ok2
  dsimp only at *
  obtain ⟨w2, hw2⟩ : ∃ w2, w.alloc (.cells (topoCells te ⟨Au, nu, cu⟩ ⟨Ah, nh, ch⟩) 30) = w2 := ⟨_, rfl⟩
  obtain ⟨k2, hbox⟩ := to_box w _ te _ _ hw2
  simp only [topoCells] at hw2
  obtain ⟨g, hg⟩ : ∃ g, w.heap.size = g := ⟨_, rfl⟩
  rw [hg] at hbox
  obtain ⟨x1, x2, x3⟩ := hbox w2 (Keep.refl w2)
  dsimp only at x2 x3
  have K2 := Lib.hid k2
  have HBOX := Lib.hid hbox
  have l1 := hU.length
  have l3 := hH.length
  have HH := Lib.hid hH
  clear k2 hbox hU hH
  simp only [topoCells]
  obtain ⟨q, hq⟩ : ∃ q, decide (TopoOk te up hp) = q := ⟨_, rfl⟩
  rw [hq]
  have QN : Hid (¬ TopoOk te up hp → q = false) := fun e => by rw [← hq]; exact decide_eq_false e
  have QY : Hid (TopoOk te up hp → q = true) := fun e => by rw [← hq]; exact decide_eq_true e
  clear hq
  by_cases c : 1 ≤ te ∧ te ≤ 1125899906842624 ∧ 1 ≤ nu ∧ nu ≤ 64 ∧ 1 ≤ nh ∧ nh ≤ 4
  · obtain ⟨c1, c2, c3, c4, c5, c6⟩ := c
    have a1 : ((te : Int) == 0) = false := beq_eq_false_iff_ne.2 (by omega)
    have a1' : ¬ te = 0 := by omega
    have a2 : ¬ (1125899906842624 : Int) < (te : Int) := by omega
    have a3 : ((nu : Int) == 0) = false := beq_eq_false_iff_ne.2 (by omega)
    have a3' : ¬ nu = 0 := by omega
    have a4 : ¬ (64 : Int) < (nu : Int) := by omega
    have a5 : ((nh : Int) == 0) = false := beq_eq_false_iff_ne.2 (by omega)
    have a5' : ¬ nh = 0 := by omega
    have a6 : ¬ (4 : Int) < (nh : Int) := by omega
    go_enter Tryd.func33, Tryd.ntmps33
    go_wp2_with fail
    clear x1 x2 x3 a1 a1' a2 a3 a3' a4 a5 a5' a6
    go_loopw [3] (fun iv wr => ∃ i : Nat, i ≤ nh ∧ iv = .int .i64 i ∧ (∀ j l, j < i → hp[j]? = some l → l.length ≤ 128 ∧ ∀ e ∈ l, EdgeOk nu e) ∧ Keep w2 wr) (fun iv _ => nh - (intOf iv).toNat)
    case atStart => exact ⟨0, by omega, rfl, fun j l hj => by omega, Keep.refl w2⟩
    case round =>
      obtain ⟨wz, rfl⟩ : ∃ wz, wz = wr := ⟨_, rfl⟩
      obtain ⟨i, hi, rfl, hz, kp⟩ := hrel
      obtain ⟨x1, x2, x3⟩ := HBOX.out wz kp
      dsimp only at x2 x3
      have HZ := Lib.hid hz
      have KP := Lib.hid kp
      clear hz
      have f1 : (0 : Int) ≤ (i : Int) := Int.natCast_nonneg _
      by_cases hlt : i < nh
      · have f2 : (i : Int) < (nh : Int) := by omega
        obtain ⟨r, hr⟩ := get_some l3 hlt
        obtain ⟨b, off, ⟨As, ns, cs⟩, rfl, hbl, hc, hE, hs1, hs2⟩ := (HH.out.keep (Nat.le_refl _) (K2.out.trans kp)).at_ hr
        dsimp only at hc hE hs1 hs2
        have q1 := hE.length
        have HE : Hid (∀ w', Keep wz w' → w'.cell? ⟨b, off + i, none⟩ = some (.slice As ns cs) ∧ EdgesAt w' w.heap.size As ns r) := fun w' kw => by
          have hsz := (K2.out.trans kp).size
          exact ⟨(World.cell?_of_block (kw.block b (by omega))).trans hc, hE.keep hsz kw⟩
        clear hE kp
        by_cases hab : ns ≤ 128
        · have b1 : ¬ (128 : Int) < (ns : Int) := by omega
          go_wp2_with fail
          clear hc x1 x2 x3 b1
          go_loopw [4] (fun iv w6 => ∃ k : Nat, k ≤ ns ∧ iv = .int .i64 k ∧ (∀ j e, j < k → r[j]? = some e → EdgeOk nu e) ∧ Keep wz w6) (fun iv _ => ns - (intOf iv).toNat)
          case atStart => exact ⟨0, by omega, rfl, fun j e hj => by omega, Keep.refl wz⟩
          case round =>
            obtain ⟨k, hk, rfl, hz, kp⟩ := hrel
            obtain ⟨x1, x2, x3⟩ := HBOX.out wr (KP.out.trans kp)
            dsimp only at x2 x3
            obtain ⟨v1, v3⟩ := HE.out wr kp
            have HZ2 := Lib.hid hz
            have KP2 := Lib.hid kp
            clear hz
            have j1 : (0 : Int) ≤ (k : Int) := Int.natCast_nonneg _
            by_cases hkl : k < ns
            · have j2 : (k : Int) < (ns : Int) := by omega
              obtain ⟨⟨ea, eb⟩, he⟩ := get_some q1 hkl
              obtain ⟨p, o, rfl, _, s1, s2⟩ := v3.at_ he
              dsimp only at s1 s2
              have s2 : wr.cell? ⟨p, o + k * 2 + 1, none⟩ = some (.int .i64 eb) := s2
              obtain ⟨w7, hw7⟩ : ∃ w7, wr.alloc (.cells #[.int .i64 ea, .int .i64 eb] 57) = w7 := ⟨_, rfl⟩
              obtain ⟨k7, t0, t1⟩ := two_box wr _ _ _ hw7
              obtain ⟨g7, hg7⟩ : ∃ g7, wr.heap.size = g7 := ⟨_, rfl⟩
              rw [hg7] at t0 t1
              obtain ⟨y1, y2, y3⟩ := HBOX.out w7 ((KP.out.trans kp).trans k7)
              dsimp only at y2 y3
              have K7 := Lib.hid k7
              clear k7 v3 kp
              by_cases ok : 0 ≤ ea ∧ ea < nu ∧ 0 ≤ eb ∧ eb < nu ∧ ea ≠ eb
              · obtain ⟨d1, d2, d3, d4, d5⟩ := ok
                have HS : Hid (∀ j e, j < k + 1 → r[j]? = some e → EdgeOk nu e) := fun j e hj hje => by
                  rcases Nat.lt_or_ge j k with h1 | h1
                  · exact HZ2.out j e h1 hje
                  · obtain rfl : j = k := by omega
                    rw [he] at hje
                    injection hje with hje
                    subst hje
                    exact ⟨d1, d2, d3, d4, d5⟩
                have m1 : ¬ ea < 0 := by omega
                have m2 : ¬ (nu : Int) ≤ ea := by omega
                have m3 : ¬ eb < 0 := by omega
                have m4 : ¬ (nu : Int) ≤ eb := by omega
                have m5 : (ea == eb) = false := beq_eq_false_iff_ne.2 d5
                clear he
                go_wp2_with fail
                exact ⟨⟨k + 1, by omega, by go_num, HS.out, KP2.out.trans K7.out⟩, by simp [intOf]; omega⟩
              · have HN : Hid (q = false) := QN.out fun e => by
                  have := e.2.2.2.2.2.2 r (List.mem_of_getElem? hr)
                  have h2 := this.2 (ea, eb) (List.mem_of_getElem? he)
                  rw [l1] at h2
                  exact ok h2
                have KE : Hid (Keep w w7) := (K2.out.trans KP.out).trans (KP2.out.trans K7.out)
                clear he hr
                by_cases n1 : ea < 0
                · go_wp2_with fail
                  go_ret
                  exact ⟨by rw [HN.out]; rfl, KE.out⟩
                by_cases n2 : (nu : Int) ≤ ea
                · go_wp2_with fail
                  go_ret
                  exact ⟨by rw [HN.out]; rfl, KE.out⟩
                by_cases n3 : eb < 0
                · go_wp2_with fail
                  go_ret
                  exact ⟨by rw [HN.out]; rfl, KE.out⟩
                by_cases n4 : (nu : Int) ≤ eb
                · go_wp2_with fail
                  go_ret
                  exact ⟨by rw [HN.out]; rfl, KE.out⟩
                have n5 : ea = eb := by omega
                subst n5
                clear ok
                go_wp2_with fail
                go_ret
                exact ⟨by rw [HN.out]; rfl, KE.out⟩
            · obtain rfl : k = ns := by omega
              have HS : Hid (∀ j l, j < i + 1 → hp[j]? = some l → l.length ≤ 128 ∧ ∀ e ∈ l, EdgeOk nu e) := fun j l hj hjl => by
                rcases Nat.lt_or_ge j i with h1 | h1
                · exact HZ.out j l h1 hjl
                · obtain rfl : j = i := by omega
                  rw [hr] at hjl
                  injection hjl with hjl
                  subst hjl
                  refine ⟨by omega, fun e he => ?_⟩
                  obtain ⟨x, hx, rfl⟩ := List.mem_iff_getElem.1 he
                  exact HZ2.out x _ (by omega) (List.getElem?_eq_getElem hx)
              have KE : Hid (Keep w2 wr) := KP.out.trans KP2.out
              clear hr v3 kp
              go_wp2_with fail
              go_roundw
              case rel => exact ⟨i + 1, by omega, by go_num, HS.out, KE.out⟩
              case measure => simp [intOf]; omega
        · have HN : Hid (q = false) := QN.out fun e => by
            have := (e.2.2.2.2.2.2 r (List.mem_of_getElem? hr)).1
            omega
          have b1 : (128 : Int) < (ns : Int) := by omega
          have KE : Hid (Keep w wz) := K2.out.trans KP.out
          clear hr
          go_wp2_with fail
          go_ret
          exact ⟨by rw [HN.out]; rfl, KE.out⟩
      · obtain rfl : i = nh := by omega
        have HY : Hid (q = true) := QY.out ⟨c1, c2, by omega, by omega, by omega, by omega, fun l hl => by
          obtain ⟨x, hx, rfl⟩ := List.mem_iff_getElem.1 hl
          rw [l1]
          exact HZ.out x _ (by omega) (List.getElem?_eq_getElem hx)⟩
        have KE : Hid (Keep w wz) := K2.out.trans KP.out
        clear kp
        go_wp2_with fail
        go_ret
        exact ⟨by rw [HY.out]; rfl, KE.out⟩
  · have HN : Hid (q = false) := QN.out fun e => c ⟨e.1, e.2.1, by have := e.2.2.1; omega, by have := e.2.2.2.1; omega, by have := e.2.2.2.2.1; omega, by have := e.2.2.2.2.2.1; omega⟩
    by_cases n1 : te = 0
    · subst n1
      simp only [show ((0 : Nat) : Int) = 0 from rfl] at hw2 x1
      go_enter Tryd.func33, Tryd.ntmps33
      go_wp2_with fail
      go_ret
      exact ⟨by rw [HN.out]; rfl, K2.out⟩
    have a1 : ((te : Int) == 0) = false := beq_eq_false_iff_ne.2 (by omega)
    by_cases n2 : (1125899906842624 : Int) < (te : Int)
    · go_enter Tryd.func33, Tryd.ntmps33
      go_wp2_with fail
      go_ret
      exact ⟨by rw [HN.out]; rfl, K2.out⟩
    by_cases n3 : nu = 0
    · subst n3
      go_enter Tryd.func33, Tryd.ntmps33
      go_wp2_with fail
      go_ret
      exact ⟨by rw [HN.out]; rfl, K2.out⟩
    have a3 : ((nu : Int) == 0) = false := beq_eq_false_iff_ne.2 (by omega)
    by_cases n4 : (64 : Int) < (nu : Int)
    · go_enter Tryd.func33, Tryd.ntmps33
      go_wp2_with fail
      go_ret
      exact ⟨by rw [HN.out]; rfl, K2.out⟩
    by_cases n5 : nh = 0
    · subst n5
      go_enter Tryd.func33, Tryd.ntmps33
      go_wp2_with fail
      go_ret
      exact ⟨by rw [HN.out]; rfl, K2.out⟩
    have a5 : ((nh : Int) == 0) = false := beq_eq_false_iff_ne.2 (by omega)
    have n6 : (4 : Int) < (nh : Int) := by omega
    go_enter Tryd.func33, Tryd.ntmps33
    go_wp2_with fail
    go_ret
    exact ⟨by rw [HN.out]; rfl, K2.out⟩
end Go.Proofs.YtgkihfemlbhioaaDoor
