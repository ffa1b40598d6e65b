/- The landed frames: mayGo, mayHave. -/
import Derived.Test.YtgkihfemlbhioaaDoorGv
namespace Go.Proofs.YtgkihfemlbhioaaDoor
open Go.RowKit Fr
set_option linter.unusedVariables false
set_option linter.unusedSimpArgs false
/-- May it go so. -/
def GoOk (f : FrV) : Prop := (0 ≤ f.src ∧ f.src ≤ 63) ∧ (0 ≤ f.dst ∧ f.dst ≤ 63) ∧ f.ep ≤ 1125899906842624 ∧ (if f.kind = 5 then f.src = f.dst ∧ f.life = 0 else f.src ≠ f.dst ∧ 1 ≤ f.life ∧ f.life ≤ 1125899906842624)
instance (f : FrV) : Decidable (GoOk f) := inferInstanceAs (Decidable (_ ∧ _))
/-- Is what its Kind has within bounds. -/
def HaveOk (f : FrV) : Prop :=
  if f.kind = 1 then (0 ≤ f.flow ∧ f.flow ≤ 3) ∧ f.gen < 1099511627776 ∧ (1 ≤ f.seq ∧ f.seq ≤ 1125899906842624) ∧ (1 ≤ f.co.length ∧ f.co.length ≤ 255) ∧ 1 ≤ f.pay.length ∧ f.pay.length ≤ 65535
  else if f.kind = 2 then (0 ≤ f.flow ∧ f.flow ≤ 3) ∧ f.gen ≤ 1099511627776 ∧ (1 ≤ f.seq ∧ f.seq ≤ 1125899906842624) ∧ RankOk f.gen none f.ranks
  else if f.kind = 3 then f.seq ≤ 1125899906842624 ∧ (1 ≤ f.ford ∧ f.ford ≤ 1125899906842624)
  else if f.kind = 4 then f.seq ≤ 1125899906842624
  else if f.kind = 5 then TopoOk f.tep f.up f.hops
  else if f.kind = 6 then (0 ≤ f.flow ∧ f.flow ≤ 3) ∧ f.gen ≤ 1099511627776
  else False
instance (f : FrV) : Decidable (HaveOk f) := by
  unfold HaveOk
  exact inferInstance
/-- It may be, if it may go so, has what it may, and has nothing else. -/
theorem may_iff (f : FrV) : MayF f ↔ GoOk f ∧ HaveOk f ∧ f = bareF f := by
  constructor
  · intro h
    refine ⟨⟨⟨h.s0, h.s63⟩, ⟨h.d0, h.d63⟩, h.ep, ?_⟩, ?_, h.bare.symm⟩
    · split
      · rename_i e; exact ⟨(h.member e).1, (h.member e).2.1⟩
      · rename_i e; exact ⟨(h.other e).1, (h.other e).2.1, h.life⟩
    · unfold HaveOk
      have k1 := h.k1
      have k6 := h.k6
      split
      · rename_i e
        obtain ⟨a1, a2, a3, a4, a5, a6, a7⟩ := h.other (by omega)
        obtain ⟨b1, b2, b3, b4, b5, b6⟩ := h.data e
        exact ⟨⟨a3, a4⟩, b1, ⟨b2, a5⟩, ⟨b3, by omega⟩, b5, by omega⟩
      split
      · rename_i e
        obtain ⟨a1, a2, a3, a4, a5, a6, a7⟩ := h.other (by omega)
        obtain ⟨b1, b2⟩ := h.feed e
        exact ⟨⟨a3, a4⟩, a7, ⟨b2, a5⟩, b1⟩
      split
      · rename_i e
        obtain ⟨a1, a2, a3, a4, a5, a6, a7⟩ := h.other (by omega)
        exact ⟨a5, h.cred e, a6⟩
      split
      · rename_i e
        obtain ⟨a1, a2, a3, a4, a5, a6, a7⟩ := h.other (by omega)
        exact a5
      split
      · rename_i e
        exact (h.member e).2.2
      split
      · rename_i e
        obtain ⟨a1, a2, a3, a4, a5, a6, a7⟩ := h.other (by omega)
        exact ⟨⟨a3, a4⟩, a7⟩
      · omega
  · rintro ⟨⟨⟨s0, s63⟩, ⟨d0, d63⟩, ep, hg⟩, hh, hb⟩
    obtain ⟨k, s, d, ep', lf, fl, gn, sq, fo, co, pay, rk, te, up, hp⟩ := f
    unfold HaveOk at hh
    unfold bareF at hb
    dsimp only at *
    injection hb with z0 z1 z2 z3 z4 z5 z6 z7 z8 z9 z10 z11 z12 z13 z14
    have hk : k = 1 ∨ k = 2 ∨ k = 3 ∨ k = 4 ∨ k = 5 ∨ k = 6 := by
      refine Classical.byContradiction fun hn => ?_
      rw [if_neg (by omega), if_neg (by omega), if_neg (by omega), if_neg (by omega), if_neg (by omega), if_neg (by omega)] at hh
      exact hh
    rcases hk with rfl | rfl | rfl | rfl | rfl | rfl
    all_goals simp only [show ((1 : Int) = 5) = False by decide, show ((2 : Int) = 5) = False by decide, show ((3 : Int) = 5) = False by decide, show ((4 : Int) = 5) = False by decide, show ((6 : Int) = 5) = False by decide, if_false, if_true, reduceIte] at hg
    all_goals simp only [Int.reduceEq, reduceIte, if_false, if_true, Int.reduceLE, false_or, or_false, true_or, or_true, and_true, true_and, and_false] at hh z5 z6 z7 z8 z9 z10 z11 z12 z13 z14
    · exact ⟨by dsimp only; decide, by dsimp only; decide, s0, s63, d0, d63, ep, hg.2.2, by unfold bareF; simp [*], fun e => absurd e (by dsimp only; decide), fun _ => ⟨hg.1, hg.2.1, hh.1.1, hh.1.2, hh.2.2.1.2, by show fo ≤ _; omega, by show gn ≤ _; omega⟩, fun _ => ⟨hh.2.1, hh.2.2.1.1, hh.2.2.2.1.1, by have := hh.2.2.2.1.2; show co.length < 256; omega, hh.2.2.2.2.1, by have := hh.2.2.2.2.2; show pay.length < 65536; omega⟩, fun e => absurd e (by dsimp only; decide), fun e => absurd e (by dsimp only; decide)⟩
    · exact ⟨by dsimp only; decide, by dsimp only; decide, s0, s63, d0, d63, ep, hg.2.2, by unfold bareF; simp [*], fun e => absurd e (by dsimp only; decide), fun _ => ⟨hg.1, hg.2.1, hh.1.1, hh.1.2, hh.2.2.1.2, by show fo ≤ _; omega, hh.2.1⟩, fun e => absurd e (by dsimp only; decide), fun _ => ⟨hh.2.2.2, hh.2.2.1.1⟩, fun e => absurd e (by dsimp only; decide)⟩
    · exact ⟨by dsimp only; decide, by dsimp only; decide, s0, s63, d0, d63, ep, hg.2.2, by unfold bareF; simp [*], fun e => absurd e (by dsimp only; decide), fun _ => ⟨hg.1, hg.2.1, by show 0 ≤ fl; omega, by show fl ≤ 3; omega, hh.1, hh.2.2, by show gn ≤ _; omega⟩, fun e => absurd e (by dsimp only; decide), fun e => absurd e (by dsimp only; decide), fun _ => hh.2.1⟩
    · exact ⟨by dsimp only; decide, by dsimp only; decide, s0, s63, d0, d63, ep, hg.2.2, by unfold bareF; simp [*], fun e => absurd e (by dsimp only; decide), fun _ => ⟨hg.1, hg.2.1, by show 0 ≤ fl; omega, by show fl ≤ 3; omega, hh, by show fo ≤ _; omega, by show gn ≤ _; omega⟩, fun e => absurd e (by dsimp only; decide), fun e => absurd e (by dsimp only; decide), fun e => absurd e (by dsimp only; decide)⟩
    · exact ⟨by dsimp only; decide, by dsimp only; decide, s0, s63, d0, d63, ep, by show lf ≤ _; omega, by unfold bareF; simp [*], fun _ => ⟨hg.1, hg.2, hh⟩, fun e => absurd rfl e, fun e => absurd e (by dsimp only; decide), fun e => absurd e (by dsimp only; decide), fun e => absurd e (by dsimp only; decide)⟩
    · exact ⟨by dsimp only; decide, by dsimp only; decide, s0, s63, d0, d63, ep, hg.2.2, by unfold bareF; simp [*], fun e => absurd e (by dsimp only; decide), fun _ => ⟨hg.1, hg.2.1, hh.1.1, hh.1.2, by show sq ≤ _; omega, by show fo ≤ _; omega, hh.2⟩, fun e => absurd e (by dsimp only; decide), fun e => absurd e (by dsimp only; decide), fun e => absurd e (by dsimp only; decide)⟩
set_option maxRecDepth 100000 in
set_option maxHeartbeats 4000000 in
theorem gmaygo_any (m : FrM) (f : FrV) (w : World) :
    Calls Tryd.prog 29 #[.agg (frCells m f)] w fun e w' => e = .returned (.bool (decide (GoOk f))) ∧ Keep w w' := by
  obtain ⟨w2, hw2⟩ : ∃ w2, w.alloc (.cells (frCells m f) 32) = w2 := ⟨_, rfl⟩
  obtain ⟨k2, hbox⟩ := fr_box w _ m f hw2
  obtain ⟨g, hg⟩ : ∃ g, w.heap.size = g := ⟨_, rfl⟩
  obtain ⟨q, hq⟩ : ∃ q, decide (GoOk f) = q := ⟨_, rfl⟩
  rw [hq]
  have QN : Hid (¬ GoOk f → q = false) := fun e => by rw [← hq]; exact decide_eq_false e
  have QY : Hid (GoOk f → q = true) := fun e => by rw [← hq]; exact decide_eq_true e
  clear hq
  obtain ⟨k, s, d, ep, lf, fl, gn, sq, fo, co, pay, rk, te, up, hp⟩ := f
  obtain ⟨⟨Ac, nc, cc⟩, ⟨Ap, np, cp⟩, ⟨Ar, nr, cr⟩, ⟨Au, nu, cu⟩, ⟨Ah, nh, ch⟩⟩ := m
  obtain ⟨⟨x0, x1, x2, x3, x4⟩, _⟩ := (hbox w2 (Keep.refl w2)).cells
  rw [hg] at x0 x1 x2 x3 x4
  simp only [frCells] at hw2
  unfold GoOk at QN QY
  dsimp only at *
  have K2 := Lib.hid k2
  simp only [frCells]
  have H1 := Lib.hid (gin_any s 0 63)
  have H2 := Lib.hid (gin_any d 0 63)
  have H3 := Lib.hid (gcount_any lf)
  clear k2 hbox
  by_cases c1 : 0 ≤ s ∧ s ≤ 63
  rotate_left
  · have HN : Hid (q = false) := QN.out fun e => c1 e.1
    rw [decide_eq_false c1] at H1
    clear c1
    go_enter Tryd.func29, Tryd.ntmps29
    go_wp2_with fail
    refine (H1.out _).mono ?_
    rintro e w3 ⟨rfl, rfl⟩
    go_wp2_with fail
    go_ret
    exact ⟨by rw [HN.out]; rfl, K2.out⟩
  by_cases c2 : 0 ≤ d ∧ d ≤ 63
  rotate_left
  · have HN : Hid (q = false) := QN.out fun e => c2 e.2.1
    rw [decide_eq_true c1] at H1
    rw [decide_eq_false c2] at H2
    clear c1 c2
    go_enter Tryd.func29, Tryd.ntmps29
    go_wp2_with fail
    refine (H1.out _).mono ?_
    rintro e w3 ⟨rfl, rfl⟩
    go_wp2_with fail
    refine (H2.out _).mono ?_
    rintro e w4 ⟨rfl, rfl⟩
    go_wp2_with fail
    go_ret
    exact ⟨by rw [HN.out]; rfl, K2.out⟩
  by_cases c3 : ep ≤ 1125899906842624
  rotate_left
  · have HN : Hid (q = false) := QN.out fun e => c3 e.2.2.1
    rw [decide_eq_true c1] at H1
    rw [decide_eq_true c2] at H2
    have a1 : (1125899906842624 : Int) < (ep : Int) := by omega
    clear c1 c2 c3
    go_enter Tryd.func29, Tryd.ntmps29
    go_wp2_with fail
    refine (H1.out _).mono ?_
    rintro e w3 ⟨rfl, rfl⟩
    go_wp2_with fail
    refine (H2.out _).mono ?_
    rintro e w4 ⟨rfl, rfl⟩
    go_wp2_with fail
    go_ret
    exact ⟨by rw [HN.out]; rfl, K2.out⟩
  have a1 : ¬ (1125899906842624 : Int) < (ep : Int) := by omega
  have GG : Hid ((0 ≤ s ∧ s ≤ 63) ∧ (0 ≤ d ∧ d ≤ 63) ∧ ep ≤ 1125899906842624) := ⟨c1, c2, c3⟩
  rw [decide_eq_true c1] at H1
  rw [decide_eq_true c2] at H2
  clear c1 c2 c3
  by_cases c4 : k = 5
  · subst c4
    by_cases c5 : s = d
    · subst c5
      by_cases c6 : lf = 0
      · subst c6
        have HY : Hid (q = true) := QY.out ⟨GG.out.1, GG.out.2.1, GG.out.2.2, by rw [if_pos rfl]; exact ⟨rfl, rfl⟩⟩
        simp only [show ((0 : Nat) : Int) = 0 from rfl] at hw2 x4
        simp only [show ((0 : Nat) : Int) = 0 from rfl]
        go_enter Tryd.func29, Tryd.ntmps29
        go_wp2_with fail
        refine (H1.out _).mono ?_
        rintro e w3 ⟨rfl, rfl⟩
        go_wp2_with fail
        refine (H2.out _).mono ?_
        rintro e w4 ⟨rfl, rfl⟩
        go_wp2_with fail
        go_ret
        exact ⟨by rw [HY.out]; rfl, K2.out⟩
      · have HN : Hid (q = false) := QN.out fun e => by have h := e.2.2.2; rw [if_pos rfl] at h; exact c6 h.2
        have b6 : ((lf : Int) == 0) = false := beq_eq_false_iff_ne.2 (by omega)
        have b6' : ¬ lf = 0 := c6
        go_enter Tryd.func29, Tryd.ntmps29
        go_wp2_with fail
        refine (H1.out _).mono ?_
        rintro e w3 ⟨rfl, rfl⟩
        go_wp2_with fail
        refine (H2.out _).mono ?_
        rintro e w4 ⟨rfl, rfl⟩
        go_wp2_with fail
        go_ret
        exact ⟨by rw [HN.out]; rfl, K2.out⟩
    · have HN : Hid (q = false) := QN.out fun e => by have h := e.2.2.2; rw [if_pos rfl] at h; exact c5 h.1
      have b5 : (s == d) = false := beq_eq_false_iff_ne.2 c5
      clear c5
      go_enter Tryd.func29, Tryd.ntmps29
      go_wp2_with fail
      refine (H1.out _).mono ?_
      rintro e w3 ⟨rfl, rfl⟩
      go_wp2_with fail
      refine (H2.out _).mono ?_
      rintro e w4 ⟨rfl, rfl⟩
      go_wp2_with fail
      go_ret
      exact ⟨by rw [HN.out]; rfl, K2.out⟩
  · have b4 : (k == 5) = false := beq_eq_false_iff_ne.2 c4
    have C4 := Lib.hid c4
    clear c4
    by_cases c5 : s = d
    · subst c5
      have HN : Hid (q = false) := QN.out fun e => by have h := e.2.2.2; rw [if_neg C4.out] at h; exact h.1 rfl
      have b5 : (s != s) = false := by simp
      go_enter Tryd.func29, Tryd.ntmps29
      go_wp2_with fail
      refine (H1.out _).mono ?_
      rintro e w3 ⟨rfl, rfl⟩
      go_wp2_with fail
      refine (H2.out _).mono ?_
      rintro e w4 ⟨rfl, rfl⟩
      go_wp2_with fail
      go_ret
      exact ⟨by rw [HN.out]; rfl, K2.out⟩
    · have b5 : (s != d) = true := by rw [bne_iff_ne]; exact c5
      obtain ⟨v, hv⟩ : ∃ v, decide (1 ≤ lf ∧ lf ≤ 1125899906842624) = v := ⟨_, rfl⟩
      rw [hv] at H3
      have HV : Hid (q = v) := by
        show q = v
        by_cases h : 1 ≤ lf ∧ lf ≤ 1125899906842624
        · rw [← hv, decide_eq_true h]
          exact QY.out ⟨GG.out.1, GG.out.2.1, GG.out.2.2, by rw [if_neg C4.out]; exact ⟨c5, h⟩⟩
        · rw [← hv, decide_eq_false h]
          exact QN.out fun e => by have h2 := e.2.2.2; rw [if_neg C4.out] at h2; exact h h2.2
      clear c5 hv
      go_enter Tryd.func29, Tryd.ntmps29
      go_wp2_with fail
      refine (H1.out _).mono ?_
      rintro e w3 ⟨rfl, rfl⟩
      go_wp2_with fail
      refine (H2.out _).mono ?_
      rintro e w4 ⟨rfl, rfl⟩
      go_wp2_with fail
      refine (H3.out _).mono ?_
      rintro e w5 ⟨rfl, rfl⟩
      go_wp2_with fail
      go_ret
      exact ⟨by rw [HV.out]; rfl, K2.out⟩
set_option maxRecDepth 100000 in
set_option maxHeartbeats 8000000 in
theorem gmayhave_any (m : FrM) (f : FrV) (w : World) (hf : FrIn w w.heap.size m f) :
    Calls Tryd.prog 30 #[.agg (frCells m f)] w fun e w' => e = .returned (.bool (decide (HaveOk f))) ∧ Keep w w' := by
  obtain ⟨w2, hw2⟩ : ∃ w2, w.alloc (.cells (frCells m f) 32) = w2 := ⟨_, rfl⟩
  obtain ⟨k2, hbox⟩ := fr_box w _ m f hw2
  obtain ⟨g, hg⟩ : ∃ g, w.heap.size = g := ⟨_, rfl⟩
  obtain ⟨q, hq⟩ : ∃ q, decide (HaveOk f) = q := ⟨_, rfl⟩
  rw [hq]
  have QN : Hid (¬ HaveOk f → q = false) := fun e => by rw [← hq]; exact decide_eq_false e
  have QY : Hid (HaveOk f → q = true) := fun e => by rw [← hq]; exact decide_eq_true e
  clear hq
  have HI := Lib.hid hf
  have l1 := hf.co.length
  have l2 := hf.pay.length
  clear hf
  obtain ⟨k, s, d, ep, lf, fl, gn, sq, fo, co, pay, rk, te, up, hp⟩ := f
  obtain ⟨⟨Ac, nc, cc⟩, ⟨Ap, np, cp⟩, ⟨Ar, nr, cr⟩, ⟨Au, nu, cu⟩, ⟨Ah, nh, ch⟩⟩ := m
  obtain ⟨⟨x0, _, _, _, _⟩, ⟨x5, x6, x7, x8⟩, ⟨x9, x10, x11⟩, x12, x13, x14⟩ := (hbox w2 (Keep.refl w2)).cells
  rw [hg] at x0 x5 x6 x7 x8 x9 x10 x11 x12 x13 x14
  simp only [frCells] at hw2
  unfold HaveOk at QN QY
  dsimp only at *
  have K2 := Lib.hid k2
  simp only [frCells]
  have HFL := Lib.hid (gflow_any fl)
  have HSQ := Lib.hid (gcount_any sq)
  have HFO := Lib.hid (gcount_any fo)
  have HRW := Lib.hid (grow_any nc cc np cp Ac Ap)
  have HRK : Hid (∀ wr, Keep w wr → gn ≤ 1099511627776 → Calls Tryd.prog 58 #[.int .u64 (gn : Int), .slice Ar nr cr] wr fun e w' => e = .returned (.bool (decide (RankOk gn none rk))) ∧ Keep wr w') := fun wr kr hgn => granks_any wr.heap.size nr cr gn Ar rk wr (HI.out.later kr).rk (Nat.le_refl _) (HI.out.oks.2.2.1.1) hgn HI.out.rks
  have HTO : Hid (∀ wr, Keep w wr → Calls Tryd.prog 59 #[.agg #[.int .u64 (te : Int), .slice Au nu cu, .slice Ah nh ch]] wr fun e w' => e = .returned (.bool (decide (TopoOk te up hp))) ∧ Keep wr w') := fun wr kr => gmayto_any te ⟨Au, nu, cu⟩ ⟨Ah, nh, ch⟩ up hp wr (HI.out.later kr).up (HI.out.later kr).hp HI.out.oks.2.2.2.1 HI.out.oks.2.2.2.2
  clear k2 hbox
  by_cases e1 : k = 1
  · subst e1
    rw [if_pos rfl] at QN QY
    by_cases c0 : 0 ≤ fl ∧ fl ≤ 3
    rotate_left
    · have HN : Hid (q = false) := QN.out fun e => c0 e.1
      rw [decide_eq_false c0] at HFL
      clear c0
      go_enter Tryd.func30, Tryd.ntmps30
      go_wp2_with fail
      refine (HFL.out _).mono ?_
      rintro e w3 ⟨rfl, rfl⟩
      go_wp2_with fail
      go_ret
      exact ⟨by rw [HN.out]; rfl, K2.out⟩
    rw [decide_eq_true c0] at HFL
    have C0 := Lib.hid c0
    clear c0
    by_cases c1 : gn < 1099511627776
    rotate_left
    · have HN : Hid (q = false) := QN.out fun e => c1 e.2.1
      have a1 : decide ((gn : Int) < 1099511627776) = false := decide_eq_false (by omega)
      clear c1
      go_enter Tryd.func30, Tryd.ntmps30
      go_wp2_with fail
      refine (HFL.out _).mono ?_
      rintro e w3 ⟨rfl, rfl⟩
      go_wp2_with fail
      go_ret
      exact ⟨by rw [HN.out]; rfl, K2.out⟩
    have a1 : decide ((gn : Int) < 1099511627776) = true := decide_eq_true (by omega)
    have C1 := Lib.hid c1
    clear c1
    by_cases c2 : 1 ≤ sq ∧ sq ≤ 1125899906842624
    rotate_left
    · have HN : Hid (q = false) := QN.out fun e => c2 e.2.2.1
      rw [decide_eq_false c2] at HSQ
      clear c2
      go_enter Tryd.func30, Tryd.ntmps30
      go_wp2_with fail
      refine (HFL.out _).mono ?_
      rintro e w3 ⟨rfl, rfl⟩
      go_wp2_with fail
      refine (HSQ.out _).mono ?_
      rintro e w4 ⟨rfl, rfl⟩
      go_wp2_with fail
      go_ret
      exact ⟨by rw [HN.out]; rfl, K2.out⟩
    rw [decide_eq_true c2] at HSQ
    have C2 := Lib.hid c2
    clear c2
    obtain ⟨v, hv⟩ : ∃ v, decide ((1 ≤ nc ∧ nc ≤ 255) ∧ 1 ≤ np ∧ np ≤ 65535) = v := ⟨_, rfl⟩
    have HV : Hid (q = v) := by
      show q = v
      by_cases h : (1 ≤ nc ∧ nc ≤ 255) ∧ 1 ≤ np ∧ np ≤ 65535
      · rw [← hv, decide_eq_true h]
        exact QY.out ⟨C0.out, C1.out, C2.out, by rw [l1, l2]; exact h⟩
      · rw [← hv, decide_eq_false h]
        exact QN.out fun e => h (by have := e.2.2.2; rw [l1, l2] at this; exact this)
    have HL := Lib.hid (HRW.out w2)
    rw [hv] at HL
    clear hv
    go_enter Tryd.func30, Tryd.ntmps30
    go_wp2_with fail
    refine (HFL.out _).mono ?_
    rintro e w3 ⟨rfl, rfl⟩
    go_wp2_with fail
    refine (HSQ.out _).mono ?_
    rintro e w4 ⟨rfl, rfl⟩
    go_wp2_with fail
    refine HL.out.mono ?_
    rintro e w9 ⟨rfl, k9⟩
    have K9 : Hid (Keep w w9) := K2.out.trans k9
    clear k9
    go_wp2_with fail
    go_ret
    exact ⟨by rw [HV.out]; rfl, K9.out⟩
  by_cases e2 : k = 2
  · subst e2
    rw [if_neg (by decide), if_pos rfl] at QN QY
    by_cases c0 : 0 ≤ fl ∧ fl ≤ 3
    rotate_left
    · have HN : Hid (q = false) := QN.out fun e => c0 e.1
      rw [decide_eq_false c0] at HFL
      clear c0
      go_enter Tryd.func30, Tryd.ntmps30
      go_wp2_with fail
      refine (HFL.out _).mono ?_
      rintro e w3 ⟨rfl, rfl⟩
      go_wp2_with fail
      go_ret
      exact ⟨by rw [HN.out]; rfl, K2.out⟩
    rw [decide_eq_true c0] at HFL
    have C0 := Lib.hid c0
    clear c0
    by_cases c1 : gn ≤ 1099511627776
    rotate_left
    · have HN : Hid (q = false) := QN.out fun e => c1 e.2.1
      have a1 : decide ((gn : Int) ≤ 1099511627776) = false := decide_eq_false (by omega)
      clear c1
      go_enter Tryd.func30, Tryd.ntmps30
      go_wp2_with fail
      refine (HFL.out _).mono ?_
      rintro e w3 ⟨rfl, rfl⟩
      go_wp2_with fail
      go_ret
      exact ⟨by rw [HN.out]; rfl, K2.out⟩
    have a1 : decide ((gn : Int) ≤ 1099511627776) = true := decide_eq_true (by omega)
    have C1 := Lib.hid c1
    clear c1
    by_cases c2 : 1 ≤ sq ∧ sq ≤ 1125899906842624
    rotate_left
    · have HN : Hid (q = false) := QN.out fun e => c2 e.2.2.1
      rw [decide_eq_false c2] at HSQ
      clear c2
      go_enter Tryd.func30, Tryd.ntmps30
      go_wp2_with fail
      refine (HFL.out _).mono ?_
      rintro e w3 ⟨rfl, rfl⟩
      go_wp2_with fail
      refine (HSQ.out _).mono ?_
      rintro e w4 ⟨rfl, rfl⟩
      go_wp2_with fail
      go_ret
      exact ⟨by rw [HN.out]; rfl, K2.out⟩
    rw [decide_eq_true c2] at HSQ
    have C2 := Lib.hid c2
    clear c2
    obtain ⟨v, hv⟩ : ∃ v, decide (RankOk gn none rk) = v := ⟨_, rfl⟩
    have HV : Hid (q = v) := by
      show q = v
      by_cases h : RankOk gn none rk
      · rw [← hv, decide_eq_true h]
        exact QY.out ⟨C0.out, C1.out, C2.out, h⟩
      · rw [← hv, decide_eq_false h]
        exact QN.out fun e => h e.2.2.2
    have HL := Lib.hid (HRK.out w2 K2.out C1.out)
    rw [hv] at HL
    clear hv
    go_enter Tryd.func30, Tryd.ntmps30
    go_wp2_with fail
    refine (HFL.out _).mono ?_
    rintro e w3 ⟨rfl, rfl⟩
    go_wp2_with fail
    refine (HSQ.out _).mono ?_
    rintro e w4 ⟨rfl, rfl⟩
    go_wp2_with fail
    refine HL.out.mono ?_
    rintro e w9 ⟨rfl, k9⟩
    have K9 : Hid (Keep w w9) := K2.out.trans k9
    clear k9
    go_wp2_with fail
    go_ret
    exact ⟨by rw [HV.out]; rfl, K9.out⟩
  by_cases e3 : k = 3
  · subst e3
    rw [if_neg (by decide), if_neg (by decide), if_pos rfl] at QN QY
    by_cases c0 : sq ≤ 1125899906842624
    rotate_left
    · have HN : Hid (q = false) := QN.out fun e => c0 e.1
      have a0 : decide ((sq : Int) ≤ 1125899906842624) = false := decide_eq_false (by omega)
      clear c0
      go_enter Tryd.func30, Tryd.ntmps30
      go_wp2_with fail
      
      go_ret
      exact ⟨by rw [HN.out]; rfl, K2.out⟩
    have a0 : decide ((sq : Int) ≤ 1125899906842624) = true := decide_eq_true (by omega)
    have C0 := Lib.hid c0
    clear c0
    obtain ⟨v, hv⟩ : ∃ v, decide (1 ≤ fo ∧ fo ≤ 1125899906842624) = v := ⟨_, rfl⟩
    have HV : Hid (q = v) := by
      show q = v
      by_cases h : 1 ≤ fo ∧ fo ≤ 1125899906842624
      · rw [← hv, decide_eq_true h]
        exact QY.out ⟨C0.out, h⟩
      · rw [← hv, decide_eq_false h]
        exact QN.out fun e => h e.2
    rw [hv] at HFO
    clear hv
    go_enter Tryd.func30, Tryd.ntmps30
    go_wp2_with fail
    refine (HFO.out _).mono ?_
    rintro e w3 ⟨rfl, rfl⟩
    go_wp2_with fail
    go_ret
    exact ⟨by rw [HV.out]; rfl, K2.out⟩
  by_cases e4 : k = 4
  · subst e4
    rw [if_neg (by decide), if_neg (by decide), if_neg (by decide), if_pos rfl] at QN QY
    by_cases c0 : sq ≤ 1125899906842624
    · have HY : Hid (q = true) := QY.out c0
      have a0 : decide ((sq : Int) ≤ 1125899906842624) = true := decide_eq_true (by omega)
      clear c0
      go_enter Tryd.func30, Tryd.ntmps30
      go_wp2_with fail
      go_ret
      exact ⟨by rw [HY.out]; rfl, K2.out⟩
    · have HN : Hid (q = false) := QN.out c0
      have a0 : decide ((sq : Int) ≤ 1125899906842624) = false := decide_eq_false (by omega)
      clear c0
      go_enter Tryd.func30, Tryd.ntmps30
      go_wp2_with fail
      go_ret
      exact ⟨by rw [HN.out]; rfl, K2.out⟩
  by_cases e5 : k = 5
  · subst e5
    rw [if_neg (by decide), if_neg (by decide), if_neg (by decide), if_neg (by decide), if_pos rfl] at QN QY
    obtain ⟨v, hv⟩ : ∃ v, decide (TopoOk te up hp) = v := ⟨_, rfl⟩
    have HV : Hid (q = v) := by
      show q = v
      by_cases h : TopoOk te up hp
      · rw [← hv, decide_eq_true h]
        exact QY.out h
      · rw [← hv, decide_eq_false h]
        exact QN.out fun e => h e
    have HL := Lib.hid (HTO.out w2 K2.out)
    rw [hv] at HL
    clear hv
    go_enter Tryd.func30, Tryd.ntmps30
    go_wp2_with fail
    
    refine HL.out.mono ?_
    rintro e w9 ⟨rfl, k9⟩
    have K9 : Hid (Keep w w9) := K2.out.trans k9
    clear k9
    go_wp2_with fail
    go_ret
    exact ⟨by rw [HV.out]; rfl, K9.out⟩
  by_cases e6 : k = 6
  · subst e6
    rw [if_neg (by decide), if_neg (by decide), if_neg (by decide), if_neg (by decide), if_neg (by decide), if_pos rfl] at QN QY
    by_cases c0 : 0 ≤ fl ∧ fl ≤ 3
    rotate_left
    · have HN : Hid (q = false) := QN.out fun e => c0 e.1
      rw [decide_eq_false c0] at HFL
      clear c0
      go_enter Tryd.func30, Tryd.ntmps30
      go_wp2_with fail
      refine (HFL.out _).mono ?_
      rintro e w3 ⟨rfl, rfl⟩
      go_wp2_with fail
      go_ret
      exact ⟨by rw [HN.out]; rfl, K2.out⟩
    rw [decide_eq_true c0] at HFL
    have C0 := Lib.hid c0
    clear c0
    by_cases c1 : gn ≤ 1099511627776
    rotate_left
    · have HN : Hid (q = false) := QN.out fun e => c1 e.2
      have a1 : decide ((gn : Int) ≤ 1099511627776) = false := decide_eq_false (by omega)
      clear c1
      go_enter Tryd.func30, Tryd.ntmps30
      go_wp2_with fail
      refine (HFL.out _).mono ?_
      rintro e w3 ⟨rfl, rfl⟩
      go_wp2_with fail
      go_ret
      exact ⟨by rw [HN.out]; rfl, K2.out⟩
    have a1 : decide ((gn : Int) ≤ 1099511627776) = true := decide_eq_true (by omega)
    have C1 := Lib.hid c1
    clear c1
    have HY : Hid (q = true) := QY.out ⟨C0.out, C1.out⟩
    go_enter Tryd.func30, Tryd.ntmps30
    go_wp2_with fail
    refine (HFL.out _).mono ?_
    rintro e w3 ⟨rfl, rfl⟩
    go_wp2_with fail
    go_ret
    exact ⟨by rw [HY.out]; rfl, K2.out⟩
  have HN : Hid (q = false) := QN.out fun e => by
    rw [if_neg e1, if_neg e2, if_neg e3, if_neg e4, if_neg e5, if_neg e6] at e
    exact e
  have b1 : (k == 1) = false := beq_eq_false_iff_ne.2 e1
  have b2 : (k == 2) = false := beq_eq_false_iff_ne.2 e2
  have b3 : (k == 3) = false := beq_eq_false_iff_ne.2 e3
  have b4 : (k == 4) = false := beq_eq_false_iff_ne.2 e4
  have b5 : (k == 5) = false := beq_eq_false_iff_ne.2 e5
  have b6 : (k == 6) = false := beq_eq_false_iff_ne.2 e6
  clear e1 e2 e3 e4 e5 e6
  go_enter Tryd.func30, Tryd.ntmps30
  go_wp2_with fail
  go_ret
  exact ⟨by rw [HN.out]; rfl, K2.out⟩
end Go.Proofs.YtgkihfemlbhioaaDoor
