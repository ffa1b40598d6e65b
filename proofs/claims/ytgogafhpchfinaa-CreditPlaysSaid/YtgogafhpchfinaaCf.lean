/- The document's own accounts. -/
import Derived.Test.YtgogafhpchfinaaQab
import Derived.BigQuiet
namespace Go.Proofs.Ytgogafhpchfinaa
open Go.RowKit
set_option linter.unusedVariables false
set_option linter.unusedSimpArgs false
structure DocS (w : World) (g own peer gr us : Nat) : Prop where
  block : w.heap[g]? = some (.cells #[.int .u64 (own : Int), .int .u64 (peer : Int), .int .u64 (gr : Int), .int .u64 (us : Int)] 52 (0, 0))
structure DocR (w : World) (g pl peer gr sn : Nat) : Prop where
  block : w.heap[g]? = some (.cells #[.int .i64 (pl : Int), .int .u64 (peer : Int), .int .u64 (gr : Int), .int .u64 (sn : Int)] 54 (0, 0))
namespace DocS
variable {w w' : World} {g own peer gr us : Nat}
theorem lt (h : DocS w g own peer gr us) : g < w.heap.size := (Array.getElem?_eq_some_iff.1 h.block).1
theorem c0 (h : DocS w g own peer gr us) : w.cell? ⟨g, 0, none⟩ = some (.int .u64 (own : Int)) := by simp [World.cell?, h.block]
theorem c1 (h : DocS w g own peer gr us) : w.cell? ⟨g, 1, none⟩ = some (.int .u64 (peer : Int)) := by simp [World.cell?, h.block]
theorem f1 (h : DocS w g own peer gr us) : w.frozen? ⟨g, 1, none⟩ = false := by simp [World.frozen?, h.block]
theorem s1 (h : DocS w g own peer gr us) (z : Nat) : DocS (w.setCell ⟨g, 1, none⟩ (.int .u64 (z : Int))) g own z gr us := ⟨by simp [World.setCell, Array.getElem?_modify, h.block]⟩
theorem c2 (h : DocS w g own peer gr us) : w.cell? ⟨g, 2, none⟩ = some (.int .u64 (gr : Int)) := by simp [World.cell?, h.block]
theorem f2 (h : DocS w g own peer gr us) : w.frozen? ⟨g, 2, none⟩ = false := by simp [World.frozen?, h.block]
theorem s2 (h : DocS w g own peer gr us) (z : Nat) : DocS (w.setCell ⟨g, 2, none⟩ (.int .u64 (z : Int))) g own peer z us := ⟨by simp [World.setCell, Array.getElem?_modify, h.block]⟩
theorem c3 (h : DocS w g own peer gr us) : w.cell? ⟨g, 3, none⟩ = some (.int .u64 (us : Int)) := by simp [World.cell?, h.block]
theorem f3 (h : DocS w g own peer gr us) : w.frozen? ⟨g, 3, none⟩ = false := by simp [World.frozen?, h.block]
theorem s3 (h : DocS w g own peer gr us) (z : Nat) : DocS (w.setCell ⟨g, 3, none⟩ (.int .u64 (z : Int))) g own peer gr z := ⟨by simp [World.setCell, Array.getElem?_modify, h.block]⟩
theorem turned {G : Nat → Prop} (h : DocS w g own peer gr us) (t : Turned G w w') (hn : ¬ G g) : DocS w' g own peer gr us := ⟨(t.block g h.lt hn).trans h.block⟩
theorem keep (h : DocS w g own peer gr us) (t : Keep w w') : DocS w' g own peer gr us := ⟨(t.block g h.lt).trans h.block⟩
end DocS
namespace DocR
variable {w w' : World} {g pl peer gr sn : Nat}
theorem lt (h : DocR w g pl peer gr sn) : g < w.heap.size := (Array.getElem?_eq_some_iff.1 h.block).1
theorem c0 (h : DocR w g pl peer gr sn) : w.cell? ⟨g, 0, none⟩ = some (.int .i64 (pl : Int)) := by simp [World.cell?, h.block]
theorem c1 (h : DocR w g pl peer gr sn) : w.cell? ⟨g, 1, none⟩ = some (.int .u64 (peer : Int)) := by simp [World.cell?, h.block]
theorem f1 (h : DocR w g pl peer gr sn) : w.frozen? ⟨g, 1, none⟩ = false := by simp [World.frozen?, h.block]
theorem s1 (h : DocR w g pl peer gr sn) (z : Nat) : DocR (w.setCell ⟨g, 1, none⟩ (.int .u64 (z : Int))) g pl z gr sn := ⟨by simp [World.setCell, Array.getElem?_modify, h.block]⟩
theorem c2 (h : DocR w g pl peer gr sn) : w.cell? ⟨g, 2, none⟩ = some (.int .u64 (gr : Int)) := by simp [World.cell?, h.block]
theorem f2 (h : DocR w g pl peer gr sn) : w.frozen? ⟨g, 2, none⟩ = false := by simp [World.frozen?, h.block]
theorem s2 (h : DocR w g pl peer gr sn) (z : Nat) : DocR (w.setCell ⟨g, 2, none⟩ (.int .u64 (z : Int))) g pl peer z sn := ⟨by simp [World.setCell, Array.getElem?_modify, h.block]⟩
theorem c3 (h : DocR w g pl peer gr sn) : w.cell? ⟨g, 3, none⟩ = some (.int .u64 (sn : Int)) := by simp [World.cell?, h.block]
theorem f3 (h : DocR w g pl peer gr sn) : w.frozen? ⟨g, 3, none⟩ = false := by simp [World.frozen?, h.block]
theorem s3 (h : DocR w g pl peer gr sn) (z : Nat) : DocR (w.setCell ⟨g, 3, none⟩ (.int .u64 (z : Int))) g pl peer gr z := ⟨by simp [World.setCell, Array.getElem?_modify, h.block]⟩
theorem turned {G : Nat → Prop} (h : DocR w g pl peer gr sn) (t : Turned G w w') (hn : ¬ G g) : DocR w' g pl peer gr sn := ⟨(t.block g h.lt hn).trans h.block⟩
theorem keep (h : DocR w g pl peer gr sn) (t : Keep w w') : DocR w' g pl peer gr sn := ⟨(t.block g h.lt).trans h.block⟩
end DocR
theorem turned_set (g i : Nat) (v : Value) (w : World) : Turned (fun b => b = g) w (w.setCell ⟨g, i, none⟩ v) := Turned.set (F := fun b => b = g) w ⟨g, i, none⟩ v rfl
theorem turned_two {g : Nat} {a b c : World} (h : Turned (fun b => b = g) a b) (k : Turned (fun b => b = g) b c) : Turned (fun b => b = g) a c := h.trans k fun i e => Or.inl e
section
variable {g own peer gr us pl sn : Nat} {w : World}
theorem dmay (h : DocS w g own peer gr us) : Calls Try.prog 23 #[.pointer (some ⟨g, 0, none⟩)] w fun e w' => e = .returned (.bool (decide (us < gr))) ∧ DocS w' g own peer gr us ∧ Keep w w' := by
  have c2 := h.c2
  have c3 := h.c3
  have d1 : decide ((us : Int) < (gr : Int)) = decide (us < gr) := decide_eq_decide.2 (by omega)
  go_enter Try.func23, Try.ntmps23
  go_wp2_with fail
  go_quiet (fail)
  go_wp2_with fail
  go_ret
  exact ⟨by simp, h.keep ((Keep.refl _).drewN _), (Keep.refl _).drewN _⟩
theorem duse (h : DocS w g own peer gr us) (hu : us ≤ 1125899906842624) : Calls Try.prog 15 #[.pointer (some ⟨g, 0, none⟩)] w fun e w' => e = .returned (.tuple #[.int .u64 (useV gr us : Int), .int .i64 (useE gr us)]) ∧ DocS w' g own peer gr (useU gr us) ∧ Turned (fun b => b = g) w w' := by
  by_cases hlt : us < gr
  · obtain ⟨u1, hu1⟩ : ∃ u, us + 1 = u := ⟨_, rfl⟩
    have eV : useV gr us = u1 := by unfold useV; rw [if_pos hlt, hu1]
    have eU : useU gr us = u1 := by unfold useU; rw [if_pos hlt, hu1]
    have eE : useE gr us = 0 := if_pos hlt
    have cM := (dmay h).mono fun e w' q => (⟨by rw [q.1, decide_eq_true hlt], q.2⟩ : e = .returned (.bool true) ∧ DocS w' g own peer gr us ∧ Keep w w')
    have s1 : IntKind.u64.wrap ((us : Int) + 1) = (u1 : Int) := by rw [IntWalk.u64_in _ (by omega)]; omega
    rw [eV, eU, eE]
    clear hu1 eV eU eE hlt
    go_enter Try.func15, Try.ntmps15
    go_wp2_with fail
    refine cM.mono ?_
    rintro e w1 ⟨rfl, h1, k1⟩
    have c3 := h1.c3
    have f3 := h1.f3
    have h2 := h1.s3 u1
    have H2 := Lib.hid h2
    have c4 := h2.c3
    have HT := Lib.hid (turned_two (Turned.of_keep k1) (turned_set g 3 (.int .u64 (u1 : Int)) w1))
    clear h2 h1 k1
    go_wp2_with fail
    go_ret2
    exact ⟨rfl, H2.out, HT.out⟩
  · have eV : useV gr us = 0 := if_neg hlt
    have eU : useU gr us = us := if_neg hlt
    have eE : useE gr us = 26 := if_neg hlt
    have cM := (dmay h).mono fun e w' q => (⟨by rw [q.1, decide_eq_false hlt], q.2⟩ : e = .returned (.bool false) ∧ DocS w' g own peer gr us ∧ Keep w w')
    rw [eV, eU, eE]
    clear eV eU eE hlt
    go_enter Try.func15, Try.ntmps15
    go_wp2_with fail
    refine cM.mono ?_
    rintro e w1 ⟨rfl, h1, k1⟩
    go_wp2_with fail
    go_ret2
    exact ⟨rfl, h1, Turned.of_keep k1⟩
set_option maxHeartbeats 2000000 in
theorem dtake (life to n : Nat) (h : DocS w g own peer gr us) (hw : own ≤ 1125899906842624) : Calls Try.prog 17 #[.pointer (some ⟨g, 0, none⟩), .int .u64 (life : Int), .int .u64 (to : Int), .int .u64 (n : Int)] w fun e w' => e = .returned (.int .i64 (takeE own peer life to n)) ∧ DocS w' g own (takeP own peer life to n) (takeG own peer gr life to n) us ∧ Turned (fun b => b = g) w w' := by
  have c0 := h.c0
  have c1 := h.c1
  have c2 := h.c2
  have f1 := h.f1
  have f2 := h.f2
  by_cases h1 : life = 0
  · subst h1
    have e : takeE own peer 0 to n = 1 := if_pos (Or.inl rfl)
    rw [takeP, takeG, e, if_neg (by decide), if_neg (fun h => absurd h.1 (by decide))]
    clear e
    go_enter Try.func17, Try.ntmps17
    go_wp2_with fail
    go_ret
    exact ⟨rfl, h, Turned.refl _ _⟩
  · have z1 : ¬ (life : Int) = 0 := by omega
    have z2 : decide ((life : Int) = (0 : Int)) = false := decide_eq_false (by omega)
    have z2n : decide (life = 0) = false := decide_eq_false (by omega)
    by_cases h2 : 1125899906842624 < life
    · have d2 : decide ((1125899906842624 : Int) < (life : Int)) = true := decide_eq_true (by omega)
      have d2n : decide (1125899906842624 < life) = true := decide_eq_true (by omega)
      have ok : okL life = false := decide_eq_false (by omega)
      have e : takeE own peer life to n = 1 := if_pos (Or.inl ok)
      rw [takeP, takeG, e, if_neg (by decide), if_neg (fun h => absurd h.1 (by decide))]
      clear e ok h1 h2
      go_enter Try.func17, Try.ntmps17
      go_wp2_with fail
      go_ret
      exact ⟨rfl, h, Turned.refl _ _⟩
    · have d2 : decide ((1125899906842624 : Int) < (life : Int)) = false := decide_eq_false (by omega)
      have d2n : decide (1125899906842624 < life) = false := decide_eq_false (by omega)
      have ok : okL life = true := decide_eq_true ⟨by omega, by omega⟩
      by_cases h3 : 1125899906842624 < to
      · have d3 : decide ((1125899906842624 : Int) < (to : Int)) = true := decide_eq_true (by omega)
        have d3n : decide (1125899906842624 < to) = true := decide_eq_true (by omega)
        have e : takeE own peer life to n = 1 := if_pos (Or.inr (Or.inl h3))
        rw [takeP, takeG, e, if_neg (by decide), if_neg (fun h => absurd h.1 (by decide))]
        clear e ok h1 h2 h3
        go_enter Try.func17, Try.ntmps17
        go_wp2_with fail
        go_ret
        exact ⟨rfl, h, Turned.refl _ _⟩
      · have d3 : decide ((1125899906842624 : Int) < (to : Int)) = false := decide_eq_false (by omega)
        have d3n : decide (1125899906842624 < to) = false := decide_eq_false (by omega)
        by_cases h4 : 1125899906842624 < n
        · have d4 : decide ((1125899906842624 : Int) < (n : Int)) = true := decide_eq_true (by omega)
          have d4n : decide (1125899906842624 < n) = true := decide_eq_true (by omega)
          have e : takeE own peer life to n = 1 := if_pos (Or.inr (Or.inr h4))
          rw [takeP, takeG, e, if_neg (by decide), if_neg (fun h => absurd h.1 (by decide))]
          clear e ok h1 h2 h3 h4
          go_enter Try.func17, Try.ntmps17
          go_wp2_with fail
          go_ret
          exact ⟨rfl, h, Turned.refl _ _⟩
        · have d4 : decide ((1125899906842624 : Int) < (n : Int)) = false := decide_eq_false (by omega)
          have d4n : decide (1125899906842624 < n) = false := decide_eq_false (by omega)
          by_cases h5 : to = own
          · have z5 : decide ((to : Int) = (own : Int)) = true := decide_eq_true (by omega)
            have z5n : (to : Int) = (own : Int) := by omega
            by_cases h6 : life < peer
            · have d6 : decide ((life : Int) < (peer : Int)) = true := decide_eq_true (by omega)
              have d6n : decide (life < peer) = true := decide_eq_true (by omega)
              have e : takeE own peer life to n = 22 := by unfold takeE; rw [if_neg (by rw [ok]; simp; omega), if_pos (by omega)]
              rw [takeP, takeG, e, if_neg (by decide), if_neg (fun h => absurd h.1 (by decide))]
              clear e ok h1 h2 h3 h4 h6 z5 z5n
              subst h5
              go_enter Try.func17, Try.ntmps17
              go_wp2_with fail
              go_ret
              exact ⟨rfl, h, Turned.refl _ _⟩
            · have d6 : decide ((life : Int) < (peer : Int)) = false := decide_eq_false (by omega)
              have d6n : decide (life < peer) = false := decide_eq_false (by omega)
              have e : takeE own peer life to n = 0 := by unfold takeE; rw [if_neg (by rw [ok]; simp; omega), if_neg (by omega)]
              rw [takeP, takeG, e, if_pos rfl]
              have T1 := Lib.hid (turned_set g 1 (.int .u64 (life : Int)) w)
              have T2 := Lib.hid (turned_two (turned_set g 2 (.int .u64 (n : Int)) w) (turned_set g 1 (.int .u64 (life : Int)) _))
              have S1 := Lib.hid (h.s1 life)
              have S2 := Lib.hid ((h.s2 n).s1 life)
              by_cases h7 : peer < life
              · rw [if_pos ⟨rfl, Or.inl h7⟩]
                have d7 : decide ((peer : Int) < (life : Int)) = true := decide_eq_true (by omega)
                have d7n : decide (peer < life) = true := decide_eq_true (by omega)
                clear e ok h1 h2 h3 h4 h6 h7 z5 z5n
                subst h5
                go_enter Try.func17, Try.ntmps17
                go_wp2_with fail
                go_ret
                exact ⟨rfl, S2.out, T2.out⟩
              · have d7 : decide ((peer : Int) < (life : Int)) = false := decide_eq_false (by omega)
                have d7n : decide (peer < life) = false := decide_eq_false (by omega)
                by_cases h8 : gr < n
                · rw [if_pos ⟨rfl, Or.inr h8⟩]
                  have d8 : decide ((gr : Int) < (n : Int)) = true := decide_eq_true (by omega)
                  have d8n : decide (gr < n) = true := decide_eq_true (by omega)
                  clear e ok h1 h2 h3 h4 h6 h7 h8 z5 z5n
                  subst h5
                  go_enter Try.func17, Try.ntmps17
                  go_wp2_with fail
                  go_ret
                  exact ⟨rfl, S2.out, T2.out⟩
                · rw [if_neg (by omega)]
                  have d8 : decide ((gr : Int) < (n : Int)) = false := decide_eq_false (by omega)
                  have d8n : decide (gr < n) = false := decide_eq_false (by omega)
                  clear e ok h1 h2 h3 h4 h6 h7 h8 z5 z5n
                  subst h5
                  go_enter Try.func17, Try.ntmps17
                  go_wp2_with fail
                  go_ret
                  exact ⟨rfl, S1.out, T1.out⟩
          · have z5 : decide ((to : Int) = (own : Int)) = false := decide_eq_false (by omega)
            have z5n : decide (to = own) = false := decide_eq_false (by omega)
            have z5m : ¬ (to : Int) = (own : Int) := by omega
            have e : takeE own peer life to n = 22 := by unfold takeE; rw [if_neg (by rw [ok]; simp; omega), if_pos (by omega)]
            rw [takeP, takeG, e, if_neg (by decide), if_neg (fun h => absurd h.1 (by decide))]
            clear e ok h1 h2 h3 h4 h5
            go_enter Try.func17, Try.ntmps17
            go_wp2_with fail
            go_ret
            exact ⟨rfl, h, Turned.refl _ _⟩
set_option maxHeartbeats 2000000 in
theorem dsaw (life n : Nat) (h : DocR w g pl peer gr sn) : Calls Try.prog 19 #[.pointer (some ⟨g, 0, none⟩), .int .u64 (life : Int), .int .u64 (n : Int)] w fun e w' => e = .returned (.int .i64 (sawE peer life n)) ∧ DocR w' g pl (sawP peer life n) (sawG peer gr life n) (sawS peer sn life n) ∧ Turned (fun b => b = g) w w' := by
  have c1 := h.c1
  have c3 := h.c3
  have f1 := h.f1
  have f2 := h.f2
  have f3 := h.f3
  by_cases h1 : life = 0
  · subst h1
    have e : sawE peer 0 n = 1 := if_pos (Or.inl rfl)
    rw [sawP, sawG, sawS, e, if_neg (by decide), if_neg (fun h => absurd h.1 (by decide)), if_neg (by decide)]
    clear e
    go_enter Try.func19, Try.ntmps19
    go_wp2_with fail
    go_ret
    exact ⟨rfl, h, Turned.refl _ _⟩
  · have z1 : ¬ (life : Int) = 0 := by omega
    have z2 : decide ((life : Int) = (0 : Int)) = false := decide_eq_false (by omega)
    have z2n : decide (life = 0) = false := decide_eq_false (by omega)
    by_cases h2 : 1125899906842624 < life
    · have d2 : decide ((1125899906842624 : Int) < (life : Int)) = true := decide_eq_true (by omega)
      have d2n : decide (1125899906842624 < life) = true := decide_eq_true (by omega)
      have ok : okL life = false := decide_eq_false (by omega)
      have e : sawE peer life n = 1 := if_pos (Or.inl ok)
      rw [sawP, sawG, sawS, e, if_neg (by decide), if_neg (fun h => absurd h.1 (by decide)), if_neg (by decide)]
      clear e ok h1 h2
      go_enter Try.func19, Try.ntmps19
      go_wp2_with fail
      go_ret
      exact ⟨rfl, h, Turned.refl _ _⟩
    · have d2 : decide ((1125899906842624 : Int) < (life : Int)) = false := decide_eq_false (by omega)
      have d2n : decide (1125899906842624 < life) = false := decide_eq_false (by omega)
      have ok : okL life = true := decide_eq_true ⟨by omega, by omega⟩
      by_cases h4 : 1125899906842624 < n
      · have d4 : decide ((1125899906842624 : Int) < (n : Int)) = true := decide_eq_true (by omega)
        have d4n : decide (1125899906842624 < n) = true := decide_eq_true (by omega)
        have e : sawE peer life n = 1 := if_pos (Or.inr h4)
        rw [sawP, sawG, sawS, e, if_neg (by decide), if_neg (fun h => absurd h.1 (by decide)), if_neg (by decide)]
        clear e ok h1 h2 h4
        go_enter Try.func19, Try.ntmps19
        go_wp2_with fail
        go_ret
        exact ⟨rfl, h, Turned.refl _ _⟩
      · have d4 : decide ((1125899906842624 : Int) < (n : Int)) = false := decide_eq_false (by omega)
        have d4n : decide (1125899906842624 < n) = false := decide_eq_false (by omega)
        by_cases h6 : life < peer
        · have d6 : decide ((life : Int) < (peer : Int)) = true := decide_eq_true (by omega)
          have d6n : decide (life < peer) = true := decide_eq_true (by omega)
          have e : sawE peer life n = 22 := by unfold sawE; rw [if_neg (by rw [ok]; simp; omega), if_pos (by omega)]
          rw [sawP, sawG, sawS, e, if_neg (by decide), if_neg (fun h => absurd h.1 (by decide)), if_neg (by decide)]
          clear e ok h1 h2 h4 h6
          go_enter Try.func19, Try.ntmps19
          go_wp2_with fail
          go_ret
          exact ⟨rfl, h, Turned.refl _ _⟩
        · have d6 : decide ((life : Int) < (peer : Int)) = false := decide_eq_false (by omega)
          have d6n : decide (life < peer) = false := decide_eq_false (by omega)
          have e : sawE peer life n = 0 := by unfold sawE; rw [if_neg (by rw [ok]; simp; omega), if_neg (by omega)]
          rw [sawP, sawG, sawS, e, if_pos rfl, if_pos rfl]
          by_cases h7 : peer < life
          · rw [if_pos ⟨rfl, h7⟩, if_pos h7]
            have d7 : decide ((peer : Int) < (life : Int)) = true := decide_eq_true (by omega)
            have d7n : decide (peer < life) = true := decide_eq_true (by omega)
            obtain ⟨wa, hwa⟩ : ∃ x, w.setCell ⟨g, 1, none⟩ (.int .u64 (life : Int)) = x := ⟨_, rfl⟩
            obtain ⟨wb, hwb⟩ : ∃ x, wa.setCell ⟨g, 2, none⟩ (.int .u64 0) = x := ⟨_, rfl⟩
            obtain ⟨wc, hwc⟩ : ∃ x, wb.setCell ⟨g, 3, none⟩ (.int .u64 0) = x := ⟨_, rfl⟩
            have ha := h.s1 life
            rw [hwa] at ha
            have hb : DocR wb g pl life 0 sn := hwb ▸ ha.s2 0
            have hz : DocR wc g pl life 0 0 := hwc ▸ hb.s3 0
            have tz : Turned (fun b => b = g) w wc := hwc ▸ hwb ▸ hwa ▸ turned_two (turned_two (turned_set g 1 (.int .u64 (life : Int)) w) (turned_set g 2 (.int .u64 0) _)) (turned_set g 3 (.int .u64 0) _)
            have ca := ha.c2
            have fa := ha.f2
            have cb := hb.c3
            have fb := hb.f3
            have cz : wc.cell? ⟨g, 3, none⟩ = some (.int .u64 0) := hz.c3
            have fz := hz.f3
            by_cases h9 : 0 < n
            · have z9 : (0 : Int) < (n : Int) := by omega
              have S2 := Lib.hid (hz.s3 n)
              have T2 := Lib.hid (turned_two tz (turned_set g 3 (.int .u64 (n : Int)) _))
              clear e ok h1 h2 h4 h6 h7 h9 hz tz ha hb
              go_enter Try.func19, Try.ntmps19
              go_wp2_with fail
              go_ret
              exact ⟨rfl, S2.out, T2.out⟩
            · obtain rfl : n = 0 := by omega
              have S2 := Lib.hid hz
              have T2 := Lib.hid tz
              clear e ok h1 h2 h4 h6 h7 h9 hz tz ha hb
              go_enter Try.func19, Try.ntmps19
              go_wp2_with fail
              go_ret
              exact ⟨rfl, S2.out, T2.out⟩
          · obtain rfl : peer = life := by omega
            rw [if_neg (fun h => h7 h.2), if_neg h7]
            by_cases h9 : sn < n
            · rw [show max n sn = n by omega]
              have d9 : decide ((sn : Int) < (n : Int)) = true := decide_eq_true (by omega)
              have d9n : decide (sn < n) = true := decide_eq_true (by omega)
              have S2 := Lib.hid (h.s3 n)
              have T2 := Lib.hid (turned_set g 3 (.int .u64 (n : Int)) w)
              clear e ok h1 h2 h4 h6 h7 h9
              go_enter Try.func19, Try.ntmps19
              go_wp2_with fail
              go_ret
              exact ⟨rfl, S2.out, T2.out⟩
            · rw [show max n sn = sn by omega]
              have d9 : decide ((sn : Int) < (n : Int)) = false := decide_eq_false (by omega)
              have d9n : decide (sn < n) = false := decide_eq_false (by omega)
              clear e ok h1 h2 h4 h6 h7 h9
              go_enter Try.func19, Try.ntmps19
              go_wp2_with fail
              go_ret
              exact ⟨rfl, h, Turned.refl _ _⟩
set_option maxHeartbeats 2000000 in
theorem dgrant (f : Int) (h : DocR w g pl peer gr sn) (hp : pl ≤ 64) (hs : sn ≤ 1125899906842624) : Calls Try.prog 21 #[.pointer (some ⟨g, 0, none⟩), .int .i64 f] w fun e w' => e = .returned (.tuple #[.int .u64 (grV pl gr sn f : Nat), .int .i64 (grE pl f)]) ∧ DocR w' g pl peer (grG pl gr sn f) sn ∧ Turned (fun b => b = g) w w' := by
  have c0 := h.c0
  have c2 := h.c2
  have c3 := h.c3
  have f2 := h.f2
  by_cases h1 : f < 0
  · have e : grE pl f = 1 := if_pos (Or.inl h1)
    rw [grV, grG, e, if_neg (by decide), if_neg (by decide)]
    have d1 : decide (f < 0) = true := decide_eq_true h1
    clear e
    go_enter Try.func21, Try.ntmps21
    go_wp2_with fail
    go_ret2
    exact ⟨rfl, h, Turned.refl _ _⟩
  · obtain ⟨k, rfl⟩ := Int.eq_ofNat_of_zero_le (show 0 ≤ f by omega)
    have d1 : decide ((k : Int) < 0) = false := decide_eq_false h1
    by_cases h2 : pl < k
    · have e : grE pl (k : Int) = 1 := if_pos (Or.inr (by omega))
      rw [grV, grG, e, if_neg (by decide), if_neg (by decide)]
      have d2 : decide ((pl : Int) < (k : Int)) = true := decide_eq_true (by omega)
      have d2n : decide (pl < k) = true := decide_eq_true (by omega)
      clear e h1 h2
      go_enter Try.func21, Try.ntmps21
      go_wp2_with fail
      go_ret2
      exact ⟨rfl, h, Turned.refl _ _⟩
    · have e : grE pl (k : Int) = 0 := if_neg (by omega)
      rw [grV, e, if_pos rfl, grG, e, if_pos rfl]
      obtain ⟨a, ha⟩ : ∃ a, sn + k = a := ⟨_, rfl⟩
      have e1 : IntKind.u64.wrap (k : Int) = (k : Int) := IntWalk.u64_in _ (by omega)
      have e2 : IntKind.u64.wrap ((sn : Int) + (k : Int)) = (a : Int) := by rw [IntWalk.u64_in _ (by omega)]; omega
      rw [Int.toNat_natCast, ha]
      have d2 : decide ((pl : Int) < (k : Int)) = false := decide_eq_false (by omega)
      have d2n : decide (pl < k) = false := decide_eq_false (by omega)
      by_cases h3 : 1125899906842624 < a
      · rw [show min a 1125899906842624 = 1125899906842624 by omega]
        have d3 : decide ((1125899906842624 : Int) < (a : Int)) = true := decide_eq_true (by omega)
        have d3n : decide (1125899906842624 < a) = true := decide_eq_true (by omega)
        by_cases h4 : gr < 1125899906842624
        · rw [show max 1125899906842624 gr = 1125899906842624 by omega]
          have d4 : decide ((gr : Int) < 1125899906842624) = true := decide_eq_true (by omega)
          have d4n : (gr : Int) < 1125899906842624 := by omega
          have S2 := h.s2 1125899906842624
          have T2 := Lib.hid (turned_set g 2 (.int .u64 ((1125899906842624 : Nat) : Int)) w)
          have cz := S2.c2
          have S2 := Lib.hid S2
          clear e h1 h2 h3 h4 ha
          go_enter Try.func21, Try.ntmps21
          go_wp2_with fail
          go_ret2
          exact ⟨rfl, S2.out, T2.out⟩
        · rw [show max 1125899906842624 gr = gr by omega]
          have d4 : decide ((gr : Int) < 1125899906842624) = false := decide_eq_false (by omega)
          have d4n : ¬ (gr : Int) < 1125899906842624 := by omega
          clear e h1 h2 h3 h4 ha
          go_enter Try.func21, Try.ntmps21
          go_wp2_with fail
          go_ret2
          exact ⟨rfl, h, Turned.refl _ _⟩
      · rw [show min a 1125899906842624 = a by omega]
        have d3 : decide ((1125899906842624 : Int) < (a : Int)) = false := decide_eq_false (by omega)
        have d3n : decide (1125899906842624 < a) = false := decide_eq_false (by omega)
        by_cases h4 : gr < a
        · rw [show max a gr = a by omega]
          have d4 : decide ((gr : Int) < (a : Int)) = true := decide_eq_true (by omega)
          have d4n : decide (gr < a) = true := decide_eq_true (by omega)
          have S2 := h.s2 a
          have T2 := Lib.hid (turned_set g 2 (.int .u64 (a : Int)) w)
          have cz := S2.c2
          have S2 := Lib.hid S2
          clear e h1 h2 h3 h4 ha
          go_enter Try.func21, Try.ntmps21
          go_wp2_with fail
          go_ret2
          exact ⟨rfl, S2.out, T2.out⟩
        · rw [show max a gr = gr by omega]
          have d4 : decide ((gr : Int) < (a : Int)) = false := decide_eq_false (by omega)
          have d4n : decide (gr < a) = false := decide_eq_false (by omega)
          clear e h1 h2 h3 h4 ha
          go_enter Try.func21, Try.ntmps21
          go_wp2_with fail
          go_ret2
          exact ⟨rfl, h, Turned.refl _ _⟩
theorem dsnew_bad (life : Nat) (h : okL life = false) (w : World) : Calls Try.prog 10 #[.int .u64 (life : Int)] w fun e w' => e = .returned (.tuple #[.pointer none, .int .i64 1]) ∧ w' = w := by
  by_cases h1 : life = 0
  · subst h1
    go_enter Try.func10, Try.ntmps10
    go_wp2_with fail
    go_ret2
    exact ⟨rfl, rfl⟩
  · have h2 : 1125899906842624 < life := by
      rcases Nat.lt_or_ge 1125899906842624 life with h3 | h3
      · exact h3
      · rw [okL, decide_eq_true ⟨by omega, h3⟩] at h; cases h
    have z1 : ¬ (life : Int) = 0 := by omega
    have z2 : decide ((life : Int) = (0 : Int)) = false := decide_eq_false (by omega)
    have z2n : decide (life = 0) = false := decide_eq_false (by omega)
    have d2 : decide ((1125899906842624 : Int) < (life : Int)) = true := decide_eq_true (by omega)
    have d2n : decide (1125899906842624 < life) = true := decide_eq_true (by omega)
    clear h h1 h2
    go_enter Try.func10, Try.ntmps10
    go_wp2_with fail
    go_ret2
    exact ⟨rfl, rfl⟩
theorem dsnew_in (life : Nat) (h : okL life = true) (w : World) : Calls Try.prog 10 #[.int .u64 (life : Int)] w fun e w' => e = .returned (.tuple #[.pointer (some ⟨w.heap.size, 0, none⟩), .int .i64 0]) ∧ DocS w' w.heap.size life 0 0 0 ∧ Keep w w' := by
  have hl := of_decide_eq_true h
  have z1 : ¬ (life : Int) = 0 := by omega
  have z2 : decide ((life : Int) = (0 : Int)) = false := decide_eq_false (by omega)
  have z2n : decide (life = 0) = false := decide_eq_false (by omega)
  have d2 : decide ((1125899906842624 : Int) < (life : Int)) = false := decide_eq_false (by omega)
  have d2n : decide (1125899906842624 < life) = false := decide_eq_false (by omega)
  clear h hl
  go_enter Try.func10, Try.ntmps10
  go_wp2_with fail
  go_ret2
  exact ⟨rfl, ⟨heap_alloc_new _ _⟩, (Keep.refl _).alloc _ _⟩
theorem drnew_bad (k : Int) (h : k < 1 ∨ 64 < k) (w : World) : Calls Try.prog 12 #[.int .i64 k] w fun e w' => e = .returned (.tuple #[.pointer none, .int .i64 1]) ∧ w' = w := by
  by_cases h1 : k < 1
  · have b1 : decide (k < 1) = true := decide_eq_true h1
    clear h
    go_enter Try.func12, Try.ntmps12
    go_wp2_with fail
    go_ret2
    exact ⟨rfl, rfl⟩
  · have h2 : 64 < k := by omega
    have b1 : decide (k < 1) = false := decide_eq_false h1
    clear h
    go_enter Try.func12, Try.ntmps12
    go_wp2_with fail
    go_ret2
    exact ⟨rfl, rfl⟩
theorem drnew_in (k : Nat) (h1 : 1 ≤ k) (h2 : k ≤ 64) (w : World) : Calls Try.prog 12 #[.int .i64 (k : Int)] w fun e w' => e = .returned (.tuple #[.pointer (some ⟨w.heap.size, 0, none⟩), .int .i64 0]) ∧ DocR w' w.heap.size k 0 0 0 ∧ Keep w w' := by
  have b1 : decide ((k : Int) < 1) = false := decide_eq_false (by omega)
  have b2 : ¬ (64 : Int) < (k : Int) := by omega
  go_enter Try.func12, Try.ntmps12
  go_wp2_with fail
  go_ret2
  exact ⟨rfl, ⟨heap_alloc_new _ _⟩, (Keep.refl w).alloc _ _⟩
end
end Go.Proofs.Ytgogafhpchfinaa
