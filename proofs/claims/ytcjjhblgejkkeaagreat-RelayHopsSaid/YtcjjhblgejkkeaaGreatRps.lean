/- Rows compared, by the document's own Same (layer 7's text, cut off for layer 14). -/
import Derived.Test.YtcjjhblgejkkeaaGreatBd
namespace Go.Proofs.YtcjjhblgejkkeaaGreat
open Go.RowKit Lin
set_option linter.unusedVariables false
set_option linter.unusedSimpArgs false
theorem LiesIn.strP {w : World} {F : Nat → Prop} {r : RowV} (h : LiesIn w F r) (hF : ∀ b, F b → b < w.heap.size) (k : Nat) : (convert 32 9 (.slice r.A r.n r.c)).run Tryz.prog (w.drewN k) = .ok (.string (strN r.xs)) (w.drewN k) :=
  run_str (w := w.drewN k) (h.bytes hF) Tryz.underlying32 Tryz.underlying5 Tryz.underlying9 r.c
set_option maxRecDepth 100000 in
set_option maxHeartbeats 2000000 in
theorem rpsame_any (n m ca cb : Nat) (A A' : Option Addr) (F F' : Nat → Prop) (ps qs : List PairV) (w : World) (h : StIn w F A n ps) (h' : StIn w F' A' m qs) (hF : ∀ b, F b → b < w.heap.size) (hF' : ∀ b, F' b → b < w.heap.size) (hn : n ≤ 1000000) :
    Calls Tryz.prog 23 #[.slice A n ca, .slice A' m cb] w fun e w' => e = .returned (.bool (decide (pairXs ps = pairXs qs))) ∧ ∃ k, w' = w.drewN k := by
  have H := Lib.hid h
  have H' := Lib.hid h'
  by_cases hnm : n = m
  · subst hnm
    clear h h'
    go_enter Tryz.func23, Tryz.ntmps23
    go_wp2_with fail
    go_loopw [5] (fun i wr => ∃ (j k : Nat), j ≤ n ∧ i = .int .i64 j ∧ wr = w.drewN k ∧ pairXs (ps.take j) = pairXs (qs.take j)) (fun i _ => n - (intOf i).toNat)
    case atStart => exact ⟨0, 0, by omega, rfl, rfl, rfl⟩
    case round =>
      obtain ⟨j, k, hj, rfl, rfl, he⟩ := hrel
      have HE := Lib.hid he
      clear he
      by_cases hlt : j < n
      · obtain ⟨b, off, p, rfl, hb, hr, hc, hcb, hl, hlb⟩ := H.out.at_ hlt
        obtain ⟨b', off', q, rfl, hb', hr', hc', hcb', hl', hlb'⟩ := H'.out.at_ hlt
        have HR := Lib.hid hr
        have HR' := Lib.hid hr'
        have t1 := hl.strP hF
        have t2 := hl'.strP hF'
        have t3 := hlb.strP hF
        have t4 := hlb'.strP hF'
        have d1 : ∀ q, (w.drewN q).cell? ⟨b, off + j * 2, none⟩ = some (.slice p.a.A p.a.n p.a.c) := fun _ => hc
        have d2 : ∀ x, (w.drewN x).cell? ⟨b', off' + j * 2, none⟩ = some (.slice q.a.A q.a.n q.a.c) := fun _ => hc'
        have d3 : ∀ q, (w.drewN q).cell? ⟨b, off + j * 2 + 1, none⟩ = some (.slice p.b.A p.b.n p.b.c) := fun _ => hcb
        have d4 : ∀ x, (w.drewN x).cell? ⟨b', off' + j * 2 + 1, none⟩ = some (.slice q.b.A q.b.n q.b.c) := fun _ => hcb'
        have e1 : (0 : Int) ≤ (j : Int) := Int.natCast_nonneg _
        have e2 : (j : Int) < (n : Int) := by omega
        have hall := And.intro hl.2.1 (And.intro hl'.2.1 (And.intro hlb.2.1 hlb'.2.1))
        by_cases hx : p.a.xs = q.a.xs
        · by_cases hy : p.b.xs = q.b.xs
          · have q0 := strN_eq hx
            have q1 := strN_eq hy
            have HX : Hid ((p.a.xs, p.b.xs) = (q.a.xs, q.b.xs)) := by show _ = _; rw [hx, hy]
            clear hr hr' hl hl' hlb hlb' hc hc' hcb hcb' hall hx hy
            go_wp2_with fail
            go_quiet (fail)
            go_wp2_with fail
            go_roundw
            case rel => exact ⟨j + 1, k + nq, by omega, by go_num, rfl, by rw [pairXs_take HR.out, pairXs_take HR'.out, HE.out, HX.out]⟩
            case measure => simp [intOf]; omega
          · have q0 := strN_eq hx
            have q1 := strN_ne hall.2.2.1 hall.2.2.2 hy
            have HC : Hid (decide (pairXs ps = pairXs qs) = false) := by show _ = _; exact decide_eq_false (pairXs_ne hr hr' fun e => hy (congrArg Prod.snd e))
            clear hr hr' hl hl' hlb hlb' hc hc' hcb hcb' hall hx hy
            go_wp2_with fail
            go_quiet (fail)
            go_wp2_with fail
            go_ret
            exact ⟨by rw [HC.out]; rfl, _, World.drewN_drewN ..⟩
        · have q0 := strN_ne hall.1 hall.2.1 hx
          have HC : Hid (decide (pairXs ps = pairXs qs) = false) := by show _ = _; exact decide_eq_false (pairXs_ne hr hr' fun e => hx (congrArg Prod.fst e))
          clear hr hr' hl hl' hlb hlb' hc hc' hcb hcb' hall hx
          go_wp2_with fail
          go_quiet (fail)
          go_wp2_with fail
          go_ret
          exact ⟨by rw [HC.out]; rfl, _, World.drewN_drewN ..⟩
      · obtain rfl : j = n := by omega
        have HC : Hid (decide (pairXs ps = pairXs qs) = true) := by
          show _ = _
          have e := HE.out
          rw [List.take_of_length_le (by rw [H.out.1]; exact Nat.le_refl _), List.take_of_length_le (by rw [H'.out.1]; exact Nat.le_refl _)] at e
          exact decide_eq_true e
        go_wp2_with fail
        go_ret
        exact ⟨by rw [HC.out]; rfl, _, rfl⟩
  · have HC : Hid (decide (pairXs ps = pairXs qs) = false) := by
      show _ = _
      exact decide_eq_false fun e => hnm (by rw [← h.1, ← h'.1]; have := congrArg List.length e; simpa [pairXs] using this)
    have b1 : ((n : Int) != (m : Int)) = true := by rw [bne_iff_ne]; omega
    clear h h' hnm hF hF'
    go_enter Tryz.func23, Tryz.ntmps23
    go_wp2_with fail
    go_ret
    exact ⟨by rw [HC.out]; rfl, 0, rfl⟩
end Go.Proofs.YtcjjhblgejkkeaaGreat
