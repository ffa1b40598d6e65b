/- The walk of RelayPlays. -/
import Derived.Test.YtcjjhblgejkkeaaGreatRPY
import Derived.Test.YtcjjhblgejkkeaaGreatRop
import Derived.Test.YtcjjhblgejkkeaaGreatRq1
import Derived.Test.YtcjjhblgejkkeaaGreatRh1
import Derived.Test.YtcjjhblgejkkeaaGreatRwk
import Derived.Deep.DeepCutAuto
import Derived.Deep.CutBlock
namespace Go.Proofs.YtcjjhblgejkkeaaGreat
open Go.RowKit Lin
set_option linter.unusedVariables false
set_option linter.unusedSimpArgs false
set_option maxRecDepth 100000 in
set_option maxHeartbeats 8000000 in
theorem rplays_any (g s k : Int) (n c : Nat) (A : Option Addr) (l : List OpV) (w : World) (h : OpsAt w w.heap.size A n l) (hn : n ≤ 140737488351232) :
    Calls Tryz.prog 3 #[.int .i64 g, .int .i64 s, .int .i64 k, .slice A n c] w fun e w' => e = .returned (.bool true) ∧ Keep w w' := by
  have H := Lib.hid h
  clear h
  by_cases h40 : 40 < s
  · have HWK := Lib.hid (wakes_any w)
    have e40 : decide ((40 : Int) < s) = true := decide_eq_true h40
    go_enter Tryz.func3, Tryz.ntmps3
    go_wp2_with fail
    refine HWK.out.mono ?_
    rintro e w1 ⟨rfl, k1⟩
    have HK := Lib.hid k1
    clear k1
    go_wp2_with fail
    go_ret
    exact ⟨rfl, HK.out⟩
  have e40 : decide ((40 : Int) < s) = false := decide_eq_false h40
  by_cases hok : 1 ≤ g ∧ g ≤ 255 ∧ 1 ≤ s ∧ s ≤ 65535 ∧ 1 ≤ k ∧ k ≤ 16
  · obtain ⟨g', rfl⟩ := Int.eq_ofNat_of_zero_le (show 0 ≤ g by omega)
    obtain ⟨s', rfl⟩ := Int.eq_ofNat_of_zero_le (show 0 ≤ s by omega)
    obtain ⟨k', rfl⟩ := Int.eq_ofNat_of_zero_le (show 0 ≤ k by omega)
    have HN := Lib.hid (relnew_in (g := g') (s := s') (k := k') (by omega) (by omega) (by omega) (by omega) (by omega) (by omega) w)
    have hz := fun w => rynew_in g' s' k' (by omega) (by omega) (by omega) (by omega) (by omega) (by omega) w
    have HZ := Lib.hid hz
    have hs40 : s' ≤ 40 := by omega
    have hg255 : g' ≤ 255 := by omega
    clear hz hok
    go_enter Tryz.func3, Tryz.ntmps3
    go_wp2_with fail
    refine HN.out.mono ?_
    rintro e w1 ⟨p, F, rfl, r1, f1, k1⟩
    have HR := Lib.hid (And.intro r1 (And.intro f1 k1))
    clear r1 f1 k1 HN
    go_wp2_with fail
    refine (HZ.out w1).mono ?_
    rintro e w2 ⟨q, F', rfl, r2, f2, k2⟩
    have HB : Hid (BothR w w2 p q g' s' k' 0 (fun _ => []) 0 (fun _ => []) F F') := ⟨HR.out.1.keep k2, r2, fun a ha hb => by have h1 := HR.out.1.lt a ha; have h2 := f2 a hb; omega, HR.out.2.1, fun a ha => Nat.le_trans HR.out.2.2.size (f2 a ha), HR.out.2.2.trans k2⟩
    clear r2 f2 k2 HR HZ
    go_wp2_with fail
    refine (wakes_any w2).mono ?_
    rintro e w3 ⟨rfl, k3⟩
    have HB3 := Lib.hid (HB.out.later k3)
    clear k3 HB
    go_wp2_with fail
    as_aux_lemma =>
      go_loopw [9, 13] (fun rv iv wz => ∃ (i p b : Nat) (L : Nat → List (List Nat)) (F F' : Nat → Prop), i ≤ n ∧ i ≤ 60 ∧ iv = .int .i64 (i : Int) ∧ rv = .pointer (some ⟨p, 0, none⟩) ∧ BothR w wz p q g' s' k' b L b L F F') (fun _ iv _ => n - (intOf iv).toNat)
      case atStart => exact ⟨0, p, 0, _, F, F', by omega, by omega, rfl, rfl, HB3.out⟩
      case round =>
        clear HB3
        obtain ⟨i, p, b, L, F, F', hi, hi60, rfl, rfl, hB⟩ := hrel
        have HB := Lib.hid hB
        clear hB
        have e0 : (0 : Int) ≤ (i : Int) := Int.natCast_nonneg _
        go_upto_region 10 with fail
        go_cut [68] from 61 to 313 (fun v wx => ∃ q : Bool, v = .bool q ∧ wx = wr ∧ (q = true → i < n ∧ i < 60))
        case first =>
          as_aux_lemma =>
            by_cases f1 : i < n
            · have f1' : decide ((i : Int) < (n : Int)) = true := decide_eq_true (by omega)
              have f1'' : (i : Int) < (n : Int) := by omega
              by_cases f3 : i < 60
              · have f3' : decide ((i : Int) < 60) = true := decide_eq_true (by omega)
                have f3'' : decide (i < 60) = true := decide_eq_true f3
                go_wp2_with fail
                go_meet
                case rel => exact ⟨true, rfl, rfl, fun _ => ⟨f1, f3⟩⟩
              · have f3' : decide ((i : Int) < 60) = false := decide_eq_false (by omega)
                have f3'' : decide (i < 60) = false := decide_eq_false f3
                go_wp2_with fail
                go_meet
                case rel => exact ⟨false, rfl, rfl, fun e => by cases e⟩
            · have f1' : decide ((i : Int) < (n : Int)) = false := decide_eq_false (by omega)
              have f1'' : ¬ (i : Int) < (n : Int) := by omega
              go_wp2_with fail
              go_meet
              case rel => exact ⟨false, rfl, rfl, fun e => by cases e⟩
        case rest =>
          obtain ⟨q2, rfl, rfl, hq⟩ := hcut
          cases q2 with
          | true =>
            as_aux_lemma =>
              obtain ⟨f1, f3⟩ := hq rfl
              clear hq
              obtain ⟨wo, rfl⟩ : ∃ wo, wo = wc := ⟨_, rfl⟩
              have f1'' : (i : Int) < (n : Int) := by omega
              obtain ⟨bo, oo, a, rfl, hbo, c0, c1, c2, c3, c4, c5, hA, hP, hY, hgen, hsent⟩ := H.out.at_ HB.out.keep f1
              obtain ⟨what, gen, sent, ⟨⟨Aa, na, ca, xa⟩, ⟨Ab, nb, cb, xb⟩⟩, ⟨Ay, ny, cy, xy⟩⟩ := a
              have HA0 := Lib.hid (LiesIn.of_bytes (r := ⟨Aa, na, ca, xa⟩) hA.1 hA.2.2)
              have HP0 := Lib.hid (LiesIn.of_bytes (r := ⟨Ab, nb, cb, xb⟩) hP.1 hP.2.2)
              have HY0 := Lib.hid (LiesIn.of_bytes (r := ⟨Ay, ny, cy, xy⟩) hY.1 hY.2.2)
              have HG : Hid ((gen < 18446744073709551616 ∧ sent < 18446744073709551616) ∧ na ≤ 140737488351232 ∧ nb ≤ 140737488351232 ∧ ny ≤ 140737488351232) := ⟨⟨hgen, hsent⟩, hA.2.1, hP.2.1, hY.2.1⟩
              clear hA hP hY hgen hsent hbo
              go_upto_region 13 with fail
              have hob := heap_alloc_new wo (.cells #[.int .i64 what, .int .u64 (gen : Int), .int .u64 (sent : Int), .slice Aa na ca, .slice Ab nb cb, .slice Ay ny cy] 36)
              have hka := (Keep.refl wo).alloc #[.int .i64 what, .int .u64 (gen : Int), .int .u64 (sent : Int), .slice Aa na ca, .slice Ab nb cb, .slice Ay ny cy] 36
              obtain ⟨w1, hw1⟩ : ∃ w1, wo.alloc (.cells #[.int .i64 what, .int .u64 (gen : Int), .int .u64 (sent : Int), .slice Aa na ca, .slice Ab nb cb, .slice Ay ny cy] 36) = w1 := ⟨_, rfl⟩
              obtain ⟨gs, hgs⟩ : ∃ v, wo.heap.size = v := ⟨_, rfl⟩
              have hap := HB.out.new_apart (a := gs) (Nat.le_of_eq hgs)
              rw [hw1, hgs] at hob
              rw [hw1] at hka
              have HB1 := Lib.hid (HB.out.later hka)
              have HOB : Hid (OpB w1 gs #[.int .i64 what, .int .u64 (gen : Int), .int .u64 (sent : Int), .slice Aa na ca, .slice Ab nb cb, .slice Ay ny cy] F F') := ⟨hob, hap.2.1, hap.2.2⟩
              have HA1 := Lib.hid (HA0.out.keepN hka)
              have HP1 := Lib.hid (HP0.out.keepN hka)
              have HY1 := Lib.hid (HY0.out.keepN hka)
              have HX : Hid (b ≤ topN) := HB.out.y.fine.2.2.2.2.2.2
              have HGW : Hid (w.heap.size ≤ gs) := hap.1
              rw [hw1]
              try simp only [hgs]
              have d0 : w1.cell? ⟨gs, 0, none⟩ = some (.int .i64 what) := cell_of_row _ _ _ _ _ _ hob
              clear hob hka hap hw1 hgs c0 c1 c2 c3 c4 c5 HB HA0 HP0 HY0
              go_upto_block 2 with fail
              clear d0
              go_cut [9] from 61 to 313 (fun rv wx => ∃ (p2 b2 : Nat) (L2 : Nat → List (List Nat)) (F2 F2' : Nat → Prop), rv = .pointer (some ⟨p2, 0, none⟩) ∧ BothR w wx p2 q g' s' k' b2 L2 b2 L2 F2 F2' ∧ OpB wx gs #[.int .i64 what, .int .u64 (gen : Int), .int .u64 (sent : Int), .slice Aa na ca, .slice Ab nb cb, .slice Ay ny cy] F2 F2')
              case first =>
                as_aux_lemma =>
                  go_upto_if 77 with fail
                  go_cut [77] from 77 to 80 (fun v wx => wx = w1 ∧ ∃ z : Bool, v = .bool z)
                  case first =>
                    as_aux_lemma =>
                      by_cases x0 : what = 0
                      · have y0 : (what == 0) = true := beq_iff_eq.2 x0
                        have z0 : decide (what = 0) = true := decide_eq_true x0
                        clear x0
                        go_wp2_with fail
                        go_meet
                        case rel => exact ⟨rfl, _, rfl⟩
                      · have y0 : (what == 0) = false := beq_eq_false_iff_ne.2 x0
                        have z0 : decide (what = 0) = false := decide_eq_false x0
                        clear x0
                        by_cases x1 : what = 1
                        · have y1 : (what == 1) = true := beq_iff_eq.2 x1
                          have z1 : decide (what = 1) = true := decide_eq_true x1
                          clear x1
                          go_wp2_with fail
                          go_meet
                          case rel => exact ⟨rfl, _, rfl⟩
                        · have y1 : (what == 1) = false := beq_eq_false_iff_ne.2 x1
                          have z1 : decide (what = 1) = false := decide_eq_false x1
                          clear x1
                          go_wp2_with fail
                          go_meet
                          case rel => exact ⟨rfl, _, rfl⟩
                  case rest =>
                    obtain ⟨hwc, z, rfl⟩ := hcut
                    obtain rfl : w1 = wc := hwc.symm
                    cases z with
                    | true =>
                      as_aux_lemma =>
                        have d3 : w1.cell? ⟨gs, 3, none⟩ = some (.slice Aa na ca) := cell_of_row _ _ _ _ _ _ HOB.out.b
                        have d4 : w1.cell? ⟨gs, 4, none⟩ = some (.slice Ab nb cb) := cell_of_row _ _ _ _ _ _ HOB.out.b
                        go_wp2_with fail
                        refine (rowown_any na nb ca cb _ _ Aa Ab xa xb w1 (HA1.out.bytes fun _ e => e) (HP1.out.bytes fun _ e => e) HB1.out.keep.size HB1.out.keep.size HG.out.2.1 HG.out.2.2.1).mono ?_
                        rintro e w2 ⟨A2, c2, A3, c3, rfl, o2, o3, l2, l3, k2⟩
                        have HO2 := Lib.hid (And.intro (And.intro o2 o3) (And.intro l2 l3))
                        have HK2 := Lib.hid k2
                        clear d3 d4 o2 o3 l2 l3 k2
                        go_upto_region 18 with fail
                        have r3 := row_block w2 (.slice A2 na c2) (.slice A3 nb c3)
                        obtain ⟨w3, hw3⟩ : ∃ v, w2.alloc (.cells #[.slice A2 na c2, .slice A3 nb c3] 34) = v := ⟨_, rfl⟩
                        obtain ⟨g3, hg3⟩ : ∃ v, w2.heap.size = v := ⟨_, rfl⟩
                        have hs3 : w3.heap.size = g3 + 1 := by rw [← hw3, ← hg3]; simp
                        rw [hw3, hg3] at r3
                        rw [hw3]
                        try simp only [hg3]
                        have k13 := HK2.out.trans r3.2.2
                        have HB3 := Lib.hid (HB1.out.later k13)
                        have HOB3 := Lib.hid (HOB.out.later k13)
                        have HA3 := Lib.hid (HA1.out.keepN k13)
                        have HP3 := Lib.hid (HP1.out.keepN k13)
                        have HO3 : Hid (Own w3 w1.heap.size 5 A2 na c2 xa ∧ Own w3 w1.heap.size 5 A3 nb c3 xb) := ⟨HO2.out.1.1.keep r3.2.2, HO2.out.1.2.keep r3.2.2⟩
                        have HSZ : Hid (w1.heap.size ≤ g3 ∧ w3.heap.size = g3 + 1) := ⟨by rw [← hg3]; exact HK2.out.size, hs3⟩
                        have b3 : w3.heap[g3]? = some (.cells #[.slice A2 na c2, .slice A3 nb c3] 34 (0, 0)) := by rw [← hw3, ← hg3]; exact heap_alloc_new _ _
                        have HBX := Lib.hid b3
                        have u0 := r3.1
                        have u1 := r3.2.1
                        have d1 : w3.cell? ⟨gs, 1, none⟩ = some (.int .u64 (gen : Int)) := cell_of_row _ _ _ _ _ _ HOB3.out.b
                        obtain ⟨tt, htt⟩ : ∃ v, yTakeT g' s' k' b L gen na nb (xa ++ xb) = v := ⟨_, rfl⟩
                        obtain ⟨te, hte⟩ : ∃ v, yTakeE g' s' k' b gen na nb = v := ⟨_, rfl⟩
                        obtain ⟨LT, hLT⟩ : ∃ v, yTakeL g' s' k' b L gen na nb (xa ++ xb) = v := ⟨_, rfl⟩
                        have h1 := rl_take_all HB3.out.y gen HG.out.1.1 _ _ na nb c2 c3 A2 A3 xa xb HO2.out.2.1 HO2.out.2.2 HO3.out.1.bytes HO3.out.2.bytes (Nat.le_refl _) (Nat.le_refl _)
                        rw [htt, hte, hLT] at h1
                        have HT1 := Lib.hid h1
                        have h2 : ∀ (w4 : World) (F4 : Nat → Prop) (L4 : Nat → List (List Nat)), BothR w w4 p q g' s' k' b L4 b L F4 F' → (LiesIn w4 (fun x => x < w.heap.size) ⟨Aa, na, ca, xa⟩ ∧ LiesIn w4 (fun x => x < w.heap.size) ⟨Ab, nb, cb, xb⟩) → Calls Tryz.prog 11 #[.pointer (some ⟨q, 0, none⟩), .int .u64 (gen : Int), .agg #[.slice Aa na ca, .slice Ab nb cb]] w4 fun e w' => e = .returned (.tuple #[.bool tt, .int .i64 te]) ∧ ∃ F5, YNext w4 w' F' F5 q g' s' k' b LT := fun w4 F4 L4 hb hl => by
                          have h := ytake_all hb.z gen ⟨⟨Aa, na, ca, xa⟩, ⟨Ab, nb, cb, xb⟩⟩ hl fun a ha => ⟨Nat.lt_of_lt_of_le ha hb.keep.size, fun e => by have := hb.lo' a e; omega⟩
                          rw [← htt, ← hte, ← hLT]
                          exact h
                        have HT2 := Lib.hid h2
                        have e1 : (tt != tt) = false := by simp
                        have e2 : (te != te) = false := by simp
                        clear h1 h2 htt hte hLT r3 hw3 hg3 hs3 k13 b3
                        go_wp2_with fail
                        refine HT1.out.mono ?_
                        rintro e w4 ⟨rfl, F4, r4, f4, t4⟩
                        have HB4 := Lib.hid (HB3.out.left r4 f4 t4)
                        have HOB4 := Lib.hid (HOB3.out.left f4 t4)
                        have HL4 := Lib.hid (And.intro (HA3.out.under t4 HB3.out.lo) (HP3.out.under t4 HB3.out.lo))
                        have hF : ∀ a, w1.heap.size ≤ a → a < w3.heap.size → ¬ F a ∧ ¬ F' a := fun a h1 h2 => (HB1.out.new_apart h1).2
                        have HF := Lib.hid hF
                        have HO4 : Hid ((Own w4 w1.heap.size 5 A2 na c2 xa ∧ Own w4 w1.heap.size 5 A3 nb c3 xb) ∧ w4.heap[g3]? = some (.cells #[.slice A2 na c2, .slice A3 nb c3] 34 (0, 0))) := ⟨⟨HO3.out.1.turned t4 fun a e => (HF.out a (HO3.out.1.1.lt a e).1 (HO3.out.1.1.lt a e).2).1, HO3.out.2.turned t4 fun a e => (HF.out a (HO3.out.2.1.lt a e).1 (HO3.out.2.1.lt a e).2).1⟩, (t4.block g3 (by have := HSZ.out; omega) (HF.out g3 HSZ.out.1 (by have := HSZ.out; omega)).1).trans HBX.out⟩
                        have HF4 : Hid (∀ a, w1.heap.size ≤ a → a < w3.heap.size → ¬ F4 a ∧ ¬ F' a) := fun a h1 h2 => ⟨fun e => by
                          rcases f4 a e with e | e
                          · exact (HF.out a h1 h2).1 e
                          · omega, (HF.out a h1 h2).2⟩
                        have HS4 : Hid (w3.heap.size ≤ w4.heap.size) := t4.size
                        have q1 : w4.cell? ⟨gs, 1, none⟩ = some (.int .u64 (gen : Int)) := cell_of_row _ _ _ _ _ _ HOB4.out.b
                        have q3 : w4.cell? ⟨gs, 3, none⟩ = some (.slice Aa na ca) := cell_of_row _ _ _ _ _ _ HOB4.out.b
                        have q4 : w4.cell? ⟨gs, 4, none⟩ = some (.slice Ab nb cb) := cell_of_row _ _ _ _ _ _ HOB4.out.b
                        clear d1 u0 u1 r4 f4 t4 hF HT1
                        go_wp2_with fail
                        refine (HT2.out w4 F4 LT HB4.out HL4.out).mono ?_
                        rintro e w5 ⟨rfl, F5, y5⟩
                        have HB5 := Lib.hid (HB4.out.right y5)
                        have HOB5 := Lib.hid (HOB4.out.right y5.2.1 y5.2.2)
                        have b5 : w5.heap[g3]? = some (.cells #[.slice A2 na c2, .slice A3 nb c3] 34 (0, 0)) := (y5.2.2.block g3 (by have := HSZ.out; have := HS4.out; omega) (HF4.out g3 HSZ.out.1 (by have := HSZ.out; omega)).2).trans HO4.out.2
                        have HO5 : Hid (Own w5 w1.heap.size 5 A2 na c2 xa ∧ Own w5 w1.heap.size 5 A3 nb c3 xb) := ⟨HO4.out.1.1.turned y5.2.2 fun a e => (HF4.out a (HO3.out.1.1.lt a e).1 (HO3.out.1.1.lt a e).2).2, HO4.out.1.2.turned y5.2.2 fun a e => (HF4.out a (HO3.out.2.1.lt a e).1 (HO3.out.2.1.lt a e).2).2⟩
                        have HF5 : Hid (∀ a, w1.heap.size ≤ a → a < w3.heap.size → w.heap.size ≤ a ∧ ¬ F4 a ∧ ¬ F5 a) := fun a h1 h2 => ⟨Nat.le_trans HB1.out.keep.size h1, (HF4.out a h1 h2).1, fun e => by
                          rcases y5.2.1 a e with e | e
                          · exact (HF4.out a h1 h2).2 e
                          · have := HS4.out; omega⟩
                        have u0 : w5.cell? ⟨g3, 0, none⟩ = some (.slice A2 na c2) := cell_of_row _ _ _ _ _ _ b5
                        have u1 : w5.cell? ⟨g3, 1, none⟩ = some (.slice A3 nb c3) := cell_of_row _ _ _ _ _ _ b5
                        clear q1 q3 q4 y5 b5 HT2
                        go_wp2_with fail
                        refine (rowflip_any w1 w5 na nb c2 c3 A2 A3 ⟨_, HO5.out.1⟩ ⟨_, HO5.out.2⟩ HG.out.2.1 HG.out.2.2.1).mono ?_
                        rintro e w6 ⟨rfl, t6⟩
                        have hD : ∀ a, ((Value.slice A2 na c2).ownBlock = some a ∨ (Value.slice A3 nb c3).ownBlock = some a) → w1.heap.size ≤ a ∧ a < w3.heap.size := fun a e => by
                          rcases e with e | e
                          · exact HO3.out.1.1.lt a e
                          · exact HO3.out.2.1.lt a e
                        have HB6 := Lib.hid (HB5.out.other t6.1 fun a e => HF5.out a (hD a e).1 (hD a e).2)
                        have HOB6 := Lib.hid (HOB5.out.other t6.1 fun e => by have h1 := (hD gs e).1; have h2 := HOB.out.lt; omega)
                        clear hD t6 u0 u1
                        go_wp2_with fail
                        go_meet
                        case rel => exact ⟨p, b, LT, F4, F5, rfl, HB6.out, HOB6.out⟩
                    | false =>
                      go_upto_if 111 with fail
                      go_cut [111] from 111 to 113 (fun v wx => wx = w1 ∧ ∃ z : Bool, v = .bool z)
                      case first =>
                        as_aux_lemma =>
                          by_cases x3 : what = 3
                          · have y3 : (what == 3) = true := beq_iff_eq.2 x3
                            have z3 : decide (what = 3) = true := decide_eq_true x3
                            clear x3
                            go_wp2_with fail
                            go_meet
                            case rel => exact ⟨rfl, _, rfl⟩
                          · have y3 : (what == 3) = false := beq_eq_false_iff_ne.2 x3
                            have z3 : decide (what = 3) = false := decide_eq_false x3
                            clear x3
                            go_wp2_with fail
                            go_meet
                            case rel => exact ⟨rfl, _, rfl⟩
                      case rest =>
                        obtain ⟨hwc, z, rfl⟩ := hcut
                        obtain rfl : w1 = wc := hwc.symm
                        cases z with
                        | true =>
                          as_aux_lemma =>
                            have d1 : w1.cell? ⟨gs, 1, none⟩ = some (.int .u64 (gen : Int)) := cell_of_row _ _ _ _ _ _ HOB.out.b
                            have d2 : w1.cell? ⟨gs, 2, none⟩ = some (.int .u64 (sent : Int)) := cell_of_row _ _ _ _ _ _ HOB.out.b
                            have d5 : w1.cell? ⟨gs, 5, none⟩ = some (.slice Ay ny cy) := cell_of_row _ _ _ _ _ _ HOB.out.b
                            obtain ⟨V, hV⟩ : ∃ v, ySendV g' s' k' b L gen sent xy = v := ⟨_, rfl⟩
                            obtain ⟨te, hte⟩ : ∃ v, ySendE k' b L gen = v := ⟨_, rfl⟩
                            obtain ⟨Va, hVa⟩ : ∃ v, V.take g' = v := ⟨_, rfl⟩
                            obtain ⟨Vb, hVb⟩ : ∃ v, V.drop g' = v := ⟨_, rfl⟩
                            have hlV : V.length ≤ g' + s' := by
                              rw [← hV, ySendV]
                              split
                              · unfold sendN; rw [vComb_lenR]; omega
                              · simp
                            have HLV : Hid (Va.length ≤ 1000000 ∧ Vb.length ≤ 1000000) := ⟨by rw [← hVa, List.length_take]; omega, by rw [← hVb, List.length_drop]; omega⟩
                            have h1 := rl_send_all (cb := cy) HB1.out.y gen sent HG.out.1.1 HG.out.1.2 (HY1.out.bytes fun _ e => e) HB1.out.keep.size
                            rw [hV, hte, hVa, hVb] at h1
                            have HT1 := Lib.hid h1
                            have h2 : ∀ (w4 : World), BothR w w4 p q g' s' k' b L b L F F' → LiesIn w4 (fun x => x < w.heap.size) ⟨Ay, ny, cy, xy⟩ → Calls Tryz.prog 14 #[.pointer (some ⟨q, 0, none⟩), .int .u64 (gen : Int), .int .u64 (sent : Int), .slice Ay ny cy] w4 fun e w' => ∃ (qv : PairV) (F5 : Nat → Prop), e = .returned (.tuple #[qv.agg, .int .i64 te]) ∧ LiesIn w' (fun x => w4.heap.size ≤ x ∧ x < w'.heap.size) qv.a ∧ LiesIn w' (fun x => w4.heap.size ≤ x ∧ x < w'.heap.size) qv.b ∧ qv.a.xs = Va ∧ qv.b.xs = Vb ∧ YNext w4 w' F' F5 q g' s' k' b L := fun w4 hb hl => by
                              have h := ysend_all hb.z gen sent ny cy Ay xy HG.out.1.2 HG.out.2.2.2 hl fun a ha => ⟨Nat.lt_of_lt_of_le ha hb.keep.size, fun e => by have := hb.lo' a e; omega⟩
                              rw [hV, hte, hVa, hVb] at h
                              exact h
                            have HT2 := Lib.hid h2
                            have e2 : (te != te) = false := by simp
                            clear h1 h2 hV hte hVa hVb hlV
                            go_wp2_with fail
                            refine HT1.out.mono ?_
                            rintro e w2 ⟨A2, n2, c2, A3, n3, c3, rfl, o2, o3, k2⟩
                            have HO2 := Lib.hid (And.intro o2 o3)
                            have HK2 := Lib.hid k2
                            clear d1 d2 d5 o2 o3 k2 HT1
                            go_upto_region 26 with fail
                            have r3 := row_block w2 (.slice A2 n2 c2) (.slice A3 n3 c3)
                            obtain ⟨w3, hw3⟩ : ∃ v, w2.alloc (.cells #[.slice A2 n2 c2, .slice A3 n3 c3] 34) = v := ⟨_, rfl⟩
                            obtain ⟨g3, hg3⟩ : ∃ v, w2.heap.size = v := ⟨_, rfl⟩
                            have hs3 : w3.heap.size = g3 + 1 := by rw [← hw3, ← hg3]; simp
                            rw [hw3, hg3] at r3
                            rw [hw3]
                            try simp only [hg3]
                            have k13 := HK2.out.trans r3.2.2
                            have HB3 := Lib.hid (HB1.out.later k13)
                            have HOB3 := Lib.hid (HOB.out.later k13)
                            have HY3 := Lib.hid (HY1.out.keepN k13)
                            have HO3 : Hid (Own w3 w1.heap.size 5 A2 n2 c2 Va ∧ Own w3 w1.heap.size 5 A3 n3 c3 Vb) := ⟨HO2.out.1.keep r3.2.2, HO2.out.2.keep r3.2.2⟩
                            have HSZ : Hid (w1.heap.size ≤ g3 ∧ w3.heap.size = g3 + 1) := ⟨by rw [← hg3]; exact HK2.out.size, hs3⟩
                            have b3 : w3.heap[g3]? = some (.cells #[.slice A2 n2 c2, .slice A3 n3 c3] 34 (0, 0)) := by rw [← hw3, ← hg3]; exact heap_alloc_new _ _
                            have HBX := Lib.hid b3
                            have HF : Hid (∀ a, w1.heap.size ≤ a → a < w3.heap.size → ¬ F a ∧ ¬ F' a) := fun a h1 h2 => (HB1.out.new_apart h1).2
                            have d1 : w3.cell? ⟨gs, 1, none⟩ = some (.int .u64 (gen : Int)) := cell_of_row _ _ _ _ _ _ HOB3.out.b
                            have d2 : w3.cell? ⟨gs, 2, none⟩ = some (.int .u64 (sent : Int)) := cell_of_row _ _ _ _ _ _ HOB3.out.b
                            have d5 : w3.cell? ⟨gs, 5, none⟩ = some (.slice Ay ny cy) := cell_of_row _ _ _ _ _ _ HOB3.out.b
                            clear r3 hw3 hg3 hs3 k13 b3
                            go_wp2_with fail
                            refine (HT2.out w3 HB3.out HY3.out).mono ?_
                            rintro e w4 ⟨⟨⟨Aq, nq, cq, xq⟩, ⟨Ar, nr, cr, xr⟩⟩, F4, rfl, la, lb, ea, eb, y4⟩
                            simp only [PairV.agg]
                            have HLQ := Lib.hid (And.intro la lb)
                            have HEQ : Hid (xq = Va ∧ xr = Vb) := ⟨ea, eb⟩
                            have HY4 := Lib.hid y4
                            clear la lb ea eb y4 d1 d2 d5 HT2
                            go_upto_region 27 with fail
                            have r5 := row_block w4 (.slice Aq nq cq) (.slice Ar nr cr)
                            obtain ⟨w5, hw5⟩ : ∃ v, w4.alloc (.cells #[.slice Aq nq cq, .slice Ar nr cr] 34) = v := ⟨_, rfl⟩
                            obtain ⟨g5, hg5⟩ : ∃ v, w4.heap.size = v := ⟨_, rfl⟩
                            have hs5 : w5.heap.size = g5 + 1 := by rw [← hw5, ← hg5]; simp
                            rw [hw5, hg5] at r5
                            rw [hw5]
                            try simp only [hg5]
                            have HB5 := Lib.hid ((HB3.out.right HY4.out).later r5.2.2)
                            have HOB5 := Lib.hid ((HOB3.out.right HY4.out.2.1 HY4.out.2.2).later r5.2.2)
                            have HO5 : Hid (Own w5 w1.heap.size 5 A2 n2 c2 Va ∧ Own w5 w1.heap.size 5 A3 n3 c3 Vb) := ⟨(HO3.out.1.turned HY4.out.2.2 fun a e => (HF.out a (HO3.out.1.1.lt a e).1 (HO3.out.1.1.lt a e).2).2).keep r5.2.2, (HO3.out.2.turned HY4.out.2.2 fun a e => (HF.out a (HO3.out.2.1.lt a e).1 (HO3.out.2.1.lt a e).2).2).keep r5.2.2⟩
                            have HF5 : Hid (∀ a, w1.heap.size ≤ a → a < w3.heap.size → w.heap.size ≤ a ∧ ¬ F a ∧ ¬ F4 a) := fun a h1 h2 => ⟨Nat.le_trans HB1.out.keep.size h1, (HF.out a h1 h2).1, fun e => by
                              rcases HY4.out.2.1 a e with e | e
                              · exact (HF.out a h1 h2).2 e
                              · omega⟩
                            have b5 : w5.heap[g3]? = some (.cells #[.slice A2 n2 c2, .slice A3 n3 c3] 34 (0, 0)) := (r5.2.2.block g3 (by have h1 := HSZ.out.2; have h2 := HY4.out.2.2.size; omega)).trans ((HY4.out.2.2.block g3 (by have := HSZ.out; omega) (HF.out g3 HSZ.out.1 (by have := HSZ.out; omega)).2).trans HBX.out)
                            have v0 : w5.cell? ⟨g3, 0, none⟩ = some (.slice A2 n2 c2) := cell_of_row _ _ _ _ _ _ b5
                            have v1 : w5.cell? ⟨g3, 1, none⟩ = some (.slice A3 n3 c3) := cell_of_row _ _ _ _ _ _ b5
                            have v2 := r5.1
                            have v3 := r5.2.1
                            have t0 : (convert 32 9 (.slice A2 n2 c2)).run Tryz.prog w5 = .ok (.string (strN Va)) w5 := HO5.out.1.lies.strP (fun x e => (HO5.out.1.1.lt x e).2) 0
                            have t1 : (convert 32 9 (.slice A3 n3 c3)).run Tryz.prog w5 = .ok (.string (strN Vb)) w5 := HO5.out.2.lies.strP (fun x e => (HO5.out.2.1.lt x e).2) 0
                            have t2 : (convert 32 9 (.slice Aq nq cq)).run Tryz.prog w5 = .ok (.string (strN Va)) w5 := by
                              have h := (HLQ.out.1.turned (Turned.of_keep (F := fun _ => False) r5.2.2) fun _ _ e => e).strP (fun x e => by have := e.2; omega) 0
                              rw [HEQ.out.1] at h
                              exact h
                            have t3 : (convert 32 9 (.slice Ar nr cr)).run Tryz.prog w5 = .ok (.string (strN Vb)) w5 := by
                              have h := (HLQ.out.2.turned (Turned.of_keep (F := fun _ => False) r5.2.2) fun _ _ e => e).strP (fun x e => by have := e.2; omega) 0
                              rw [HEQ.out.2] at h
                              exact h
                            have s0 : ((strN Va).toList == (strN Va).toList) = true := strN_eq rfl
                            have s1 : ((strN Vb).toList == (strN Vb).toList) = true := strN_eq rfl
                            have hln : n2 ≤ 1000000 ∧ n3 ≤ 1000000 := ⟨by have := HLV.out.1; rw [HO5.out.1.length] at this; exact this, by have := HLV.out.2; rw [HO5.out.2.length] at this; exact this⟩
                            have HLN := Lib.hid hln
                            clear r5 hw5 hg5 hs5 b5 hln
                            go_wp2_with fail
                            refine (rowflip_any w1 w5 n2 n3 c2 c3 A2 A3 ⟨_, HO5.out.1⟩ ⟨_, HO5.out.2⟩ (by have := HLN.out.1; omega) (by have := HLN.out.2; omega)).mono ?_
                            rintro e w6 ⟨rfl, t6⟩
                            have hD : ∀ a, ((Value.slice A2 n2 c2).ownBlock = some a ∨ (Value.slice A3 n3 c3).ownBlock = some a) → w1.heap.size ≤ a ∧ a < w3.heap.size := fun a e => by
                              rcases e with e | e
                              · exact HO3.out.1.1.lt a e
                              · exact HO3.out.2.1.lt a e
                            have HB6 := Lib.hid (HB5.out.other t6.1 fun a e => HF5.out a (hD a e).1 (hD a e).2)
                            have HOB6 := Lib.hid (HOB5.out.other t6.1 fun e => by have h1 := (hD gs e).1; have h2 := HOB.out.lt; omega)
                            clear hD t6 v0 v1 v2 v3 t0 t1 t2 t3 s0 s1
                            go_wp2_with fail
                            go_meet
                            case rel => exact ⟨p, b, L, F, F4, rfl, HB6.out, HOB6.out⟩
                        | false =>
                          by_cases x5 : what = 5
                          · have y5 : (what == 5) = true := beq_iff_eq.2 x5
                            have z5 : decide (what = 5) = true := decide_eq_true x5
                            clear x5
                            as_aux_lemma =>
                              have d1 : w1.cell? ⟨gs, 1, none⟩ = some (.int .u64 (gen : Int)) := cell_of_row _ _ _ _ _ _ HOB.out.b
                              obtain ⟨te, hte⟩ : ∃ v, ySolveE g' k' b L gen = v := ⟨_, rfl⟩
                              obtain ⟨V, hV⟩ : ∃ v, ySolveV g' k' b L gen = v := ⟨_, rfl⟩
                              have hlV : V.length ≤ 255 := by
                                rw [← hV, ySolveV]
                                split
                                · rw [List.length_map]; have := (HB1.out.y.bas gen).length_le; omega
                                · simp
                              have HLV := Lib.hid hlV
                              have h1 := rl_solve_all HB1.out.y gen HG.out.1.1
                              rw [hte, hV] at h1
                              have HT1 := Lib.hid h1
                              have h2 : ∀ (w4 : World), BothR w w4 p q g' s' k' b L b L F F' → Calls Tryz.prog 16 #[.pointer (some ⟨q, 0, none⟩), .int .u64 (gen : Int)] w4 fun e w' => ∃ A r c rs F5, e = .returned (.tuple #[.slice A r c, .int .i64 te]) ∧ OwnRows w' w4.heap.size 32 A r c rs ∧ (∀ x ∈ rs, LiesIn w' F5 x) ∧ rowsXs rs = V ∧ YNext w4 w' F' F5 q g' s' k' b L := fun w4 hb => by
                                have h := ysolve_all hb.z gen (hb.z.len gen).1
                                rw [hte, hV] at h
                                exact h
                              have HT2 := Lib.hid h2
                              have e2 : (te != te) = false := by simp
                              clear h1 h2 hV hte hlV
                              go_wp2_with fail
                              refine HT1.out.mono ?_
                              rintro e w2 ⟨A2, n2, c2, rs, rfl, o2, o3, ex, k2⟩
                              have HB2 := Lib.hid (HB1.out.later k2)
                              have HOB2 := Lib.hid (HOB.out.later k2)
                              have HR2 := Lib.hid (RowsIn.of_own (F := fun x => w1.heap.size ≤ x ∧ x < w2.heap.size) o2 (fun r hr => (o3 r hr).lies.mono fun x e => (o3 r hr).1.lt x e) fun x e => o2.lt x e)
                              have HEX := Lib.hid ex
                              have g1 : w2.cell? ⟨gs, 1, none⟩ = some (.int .u64 (gen : Int)) := cell_of_row _ _ _ _ _ _ HOB2.out.b
                              clear o2 o3 ex k2 d1 HT1
                              go_wp2_with fail
                              refine (HT2.out w2 HB2.out).mono ?_
                              rintro e w3 ⟨A3, n3, c3, rt, F4, rfl, o3, l3, ey, y3⟩
                              have HB3 := Lib.hid (HB2.out.right y3)
                              have HOB3 := Lib.hid (HOB2.out.right y3.2.1 y3.2.2)
                              have HRA := Lib.hid (HR2.out.turned y3.2.2 fun x hx e => by have := (HB1.out.new_apart hx.1).2.2; exact this e)
                              have HRB := Lib.hid (RowsIn.of_own (F := fun x => x < w3.heap.size) o3 (fun r hr => (l3 r hr).mono fun x e => y3.1.lt x e) fun x e => (o3.lt x e).2)
                              have hn2 : n2 = V.length := by rw [← HEX.out, rowsXs, List.length_map]; exact HR2.out.1.symm
                              have hn3 : n3 = V.length := by rw [← ey, rowsXs, List.length_map]; exact o3.length.symm
                              obtain rfl : n2 = n3 := hn2.trans hn3.symm
                              have hV5 : n2 ≤ 255 := by rw [hn2]; exact HLV.out
                              have HEY := Lib.hid ey
                              have HSZ : Hid (w2.heap.size ≤ w3.heap.size) := y3.2.2.size
                              have e3 : ((n2 : Int) != (n2 : Int)) = false := by simp
                              clear o3 l3 ey y3 g1 HT2 hn2 hn3
                              go_wp2_with fail
                              go_loopw [28] (fun jv wz => ∃ j : Nat, j ≤ n2 ∧ jv = .int .i64 (j : Int) ∧ Keep w3 wz) (fun jv _ => n2 - (intOf jv).toNat)
                              case atStart => exact ⟨0, by omega, rfl, Keep.refl _⟩
                              case round =>
                                obtain ⟨j, hj, rfl, hkk⟩ := hrel
                                have HKK := Lib.hid hkk
                                clear hkk
                                have f0 : (0 : Int) ≤ (j : Int) := Int.natCast_nonneg _
                                by_cases hlt : j < n2
                                · have f2 : (j : Int) < (n2 : Int) := by omega
                                  obtain ⟨b1, o1, r1, rfl, hb1, hr1, hc1, hl1⟩ := (HRA.out.turned (Turned.of_keep (F := fun _ => False) HKK.out) fun _ _ e => e).at_ hlt
                                  obtain ⟨b2, o2, r2, rfl, hb2, hr2, hc2, hl2⟩ := (HRB.out.turned (Turned.of_keep (F := fun _ => False) HKK.out) fun _ _ e => e).at_ hlt
                                  obtain ⟨Z, hZ⟩ : ∃ v, V.getD j [] = v := ⟨_, rfl⟩
                                  have x1 : r1.xs = Z := by rw [← hZ, ← HEX.out, rowsXs, List.getD_eq_getElem?_getD, List.getElem?_map, hr1]; rfl
                                  have x2 : r2.xs = Z := by rw [← hZ, ← HEY.out, rowsXs, List.getD_eq_getElem?_getD, List.getElem?_map, hr2]; rfl
                                  have t1 : ∀ k, (convert 32 9 (.slice r1.A r1.n r1.c)).run Tryz.prog (wr.drewN k) = .ok (.string (strN Z)) (wr.drewN k) := fun k => by
                                    have h := hl1.strP (fun x e => Nat.lt_of_lt_of_le e.2 (Nat.le_trans HSZ.out HKK.out.size)) k
                                    rw [x1] at h
                                    exact h
                                  have t2 : ∀ k, (convert 32 9 (.slice r2.A r2.n r2.c)).run Tryz.prog (wr.drewN k) = .ok (.string (strN Z)) (wr.drewN k) := fun k => by
                                    have h := hl2.strP (fun x e => Nat.lt_of_lt_of_le e HKK.out.size) k
                                    rw [x2] at h
                                    exact h
                                  have d1 : ∀ q, (wr.drewN q).cell? ⟨b1, o1 + j, none⟩ = some (.slice r1.A r1.n r1.c) := fun _ => hc1
                                  have d2 : ∀ q, (wr.drewN q).cell? ⟨b2, o2 + j, none⟩ = some (.slice r2.A r2.n r2.c) := fun _ => hc2
                                  have q0 : ((strN Z).toList == (strN Z).toList) = true := strN_eq rfl
                                  clear hc1 hc2 hl1 hl2 hb1 hb2 hr1 hr2 hZ x1 x2
                                  go_wp2_with fail
                                  go_quiet (fail)
                                  go_wp2_with fail
                                  go_roundw
                                  case rel => exact ⟨j + 1, by omega, by go_num, Keep.drewN HKK.out _⟩
                                  case measure => simp [intOf]; omega
                                · have f2 : ¬ (j : Int) < (n2 : Int) := by omega
                                  have HB4 := Lib.hid (HB3.out.later HKK.out)
                                  have HOB4 := Lib.hid (HOB3.out.later HKK.out)
                                  go_wp2_with fail
                                  go_meet
                                  case rel => exact ⟨p, b, L, F, F4, rfl, HB4.out, HOB4.out⟩
                          · have y5 : (what == 5) = false := beq_eq_false_iff_ne.2 x5
                            have z5 : decide (what = 5) = false := decide_eq_false x5
                            clear x5
                            by_cases x6 : what = 6
                            · have y6 : (what == 6) = true := beq_iff_eq.2 x6
                              have z6 : decide (what = 6) = true := decide_eq_true x6
                              clear x6
                              as_aux_lemma =>
                                have d1 : w1.cell? ⟨gs, 1, none⟩ = some (.int .u64 (gen : Int)) := cell_of_row _ _ _ _ _ _ HOB.out.b
                                obtain ⟨te, hte⟩ : ∃ v, yMoveE gen = v := ⟨_, rfl⟩
                                obtain ⟨bm, hbm⟩ : ∃ v, yMoveB b gen = v := ⟨_, rfl⟩
                                obtain ⟨LM, hLM⟩ : ∃ v, yMoveM k' gen L = v := ⟨_, rfl⟩
                                have h1 : ∀ (w2 : World), Keep w1 w2 → Calls Tryz.prog 17 #[.pointer (some ⟨p, 0, none⟩), .int .u64 (gen : Int)] w2 fun e w' => e = .returned (.int .i64 te) ∧ ∃ F2, RelR w' F2 p g' s' k' bm LM ∧ (∀ q, F2 q → F q ∨ w2.heap.size ≤ q) ∧ Turned F w2 w' := fun w2 kp => by
                                  have h := rl_move_all (HB1.out.y.keep kp) gen
                                  rw [hte, hbm, hLM] at h
                                  exact h
                                have h2 : ∀ (w4 : World) (F4 : Nat → Prop) (b4 : Nat) (L4 : Nat → List (List Nat)), BothR w w4 p q g' s' k' b4 L4 b L F4 F' → Calls Tryz.prog 18 #[.pointer (some ⟨q, 0, none⟩), .int .u64 (gen : Int)] w4 fun e w' => e = .returned (.int .i64 te) ∧ ∃ F5, YNext w4 w' F' F5 q g' s' k' bm LM := fun w4 F4 b4 L4 hb => by
                                  have h := ymove_all hb.z gen
                                  rw [hte, hbm, hLM] at h
                                  exact h
                                have HT1 := Lib.hid h1
                                have HT2 := Lib.hid h2
                                have e2 : (te != te) = false := by simp
                                clear h1 h2 hte hbm hLM
                                go_wp2_with fail
                                refine wp_region_noPanic ?_
                                refine wp_region_held_drew (S := fun wz => wz.cell? ⟨gs, 1, none⟩ = some (.int .u64 (gen : Int))) (by kernel_rfl) d1 (fun hHeld => ?_)
                                refine wpAnyH_take (i := 0) (v := ?_) rfl (by kernel_rfl) (by kernel_rfl) (by kernel_rfl) (fun _ _ _ h => h) (Or.inl ⟨by rfl, ?_⟩) hHeld ?_
                                rotate_left
                                · intro wq hSw
                                  go_simp
                                  all_goals with_reducible rfl
                                try simp only [Act.put, List.getElem_toArray, List.getElem_cons_succ, List.getElem_cons_zero, List.setIfInBounds_toArray, List.set_cons_zero, List.set_cons_succ]
                                refine wpAnyH_take (i := 1) (v := ?_) rfl (by kernel_rfl) (by kernel_rfl) (by kernel_rfl) (fun _ _ _ h => h) (Or.inl ⟨by rfl, ?_⟩) hHeld ?_
                                rotate_left
                                · intro wq hSw
                                  go_simp
                                  all_goals with_reducible rfl
                                try simp only [Act.put, List.getElem_toArray, List.getElem_cons_succ, List.getElem_cons_zero, List.setIfInBounds_toArray, List.set_cons_zero, List.set_cons_succ]
                                refine wpAnyH_take (i := 2) (v := ?_) rfl (by kernel_rfl) (by kernel_rfl) (by kernel_rfl) (fun _ _ _ h => h) (Or.inl ⟨by rfl, ?_⟩) hHeld ?_
                                rotate_left
                                · intro wq hSw
                                  have q0 := hSw
                                  go_simp
                                  all_goals with_reducible rfl
                                try simp only [Act.put, List.getElem_toArray, List.getElem_cons_succ, List.getElem_cons_zero, List.setIfInBounds_toArray, List.set_cons_zero, List.set_cons_succ]
                                refine wpAnyH_take (i := 4) (v := ?_) rfl (by kernel_rfl) (by kernel_rfl) (by kernel_rfl) (fun _ _ _ h => h) (Or.inl ⟨by rfl, ?_⟩) hHeld ?_
                                rotate_left
                                · intro wq hSw
                                  go_simp
                                  all_goals with_reducible rfl
                                try simp only [Act.put, List.getElem_toArray, List.getElem_cons_succ, List.getElem_cons_zero, List.setIfInBounds_toArray, List.set_cons_zero, List.set_cons_succ]
                                refine wpAnyH_take (i := 5) (v := ?_) rfl (by kernel_rfl) (by kernel_rfl) (by kernel_rfl) (fun _ _ _ h => h) (Or.inl ⟨by rfl, ?_⟩) hHeld ?_
                                rotate_left
                                · intro wq hSw
                                  go_simp
                                  all_goals with_reducible rfl
                                try simp only [Act.put, List.getElem_toArray, List.getElem_cons_succ, List.getElem_cons_zero, List.setIfInBounds_toArray, List.set_cons_zero, List.set_cons_succ]
                                refine wpAnyH_take (i := 6) (v := ?_) rfl (by kernel_rfl) (by kernel_rfl) (by kernel_rfl) (fun _ _ _ h => h) (Or.inl ⟨by rfl, ?_⟩) hHeld ?_
                                rotate_left
                                · intro wq hSw
                                  have q0 := hSw
                                  go_simp
                                  all_goals with_reducible rfl
                                try simp only [Act.put, List.getElem_toArray, List.getElem_cons_succ, List.getElem_cons_zero, List.setIfInBounds_toArray, List.set_cons_zero, List.set_cons_succ]
                                refine wpAnyH_ready (rs := [3]) (by kernel_rfl) (by simp) ?_
                                refine AllReadyH.cons rfl (fun K hK => ?_) AllReadyH.nil
                                go_simp
                                refine (HT1.out _ (Keep.drew (Keep.refl _))).mono ?_
                                rintro e w2 ⟨rfl, F2, r2, f2, t2⟩
                                have HB2 := Lib.hid ((HB1.out.later (Keep.drew (Keep.refl _))).left r2 f2 t2)
                                have HOB2 := Lib.hid ((HOB.out.later (Keep.drew (Keep.refl _))).left f2 t2)
                                have hq2 : w2.cell? ⟨gs, 1, none⟩ = some (.int .u64 (gen : Int)) := cell_of_row _ _ _ _ _ _ HOB2.out.b
                                clear r2 f2 t2 HT1
                                refine hK.out _ _ hq2 (fun hHeld => ?_)
                                clear hK K
                                try simp only [Act.put, List.getElem_toArray, List.getElem_cons_succ, List.getElem_cons_zero, List.setIfInBounds_toArray, List.set_cons_zero, List.set_cons_succ]
                                refine wpAnyH_ready (rs := [7]) (by kernel_rfl) (by simp) ?_
                                refine AllReadyH.cons rfl (fun K hK => ?_) AllReadyH.nil
                                go_simp
                                refine (HT2.out _ _ _ _ HB2.out).mono ?_
                                rintro e w3 ⟨rfl, F3, y3⟩
                                have HB3 := Lib.hid (HB2.out.right y3)
                                have HOB3 := Lib.hid (HOB2.out.right y3.2.1 y3.2.2)
                                have hq3 : w3.cell? ⟨gs, 1, none⟩ = some (.int .u64 (gen : Int)) := cell_of_row _ _ _ _ _ _ HOB3.out.b
                                clear y3 HT2
                                refine hK.out _ _ hq3 (fun hHeld => ?_)
                                clear hK K
                                try simp only [Act.put, List.getElem_toArray, List.getElem_cons_succ, List.getElem_cons_zero, List.setIfInBounds_toArray, List.set_cons_zero, List.set_cons_succ]
                                refine wpAnyH_take (i := 8) (v := ?_) rfl (by kernel_rfl) (by kernel_rfl) (by kernel_rfl) (fun _ _ _ h => h) (Or.inl ⟨by rfl, ?_⟩) hHeld ?_
                                rotate_left
                                · intro wq hSw
                                  go_simp
                                  all_goals with_reducible rfl
                                try simp only [Act.put, List.getElem_toArray, List.getElem_cons_succ, List.getElem_cons_zero, List.setIfInBounds_toArray, List.set_cons_zero, List.set_cons_succ]
                                refine wpAnyH_done (by kernel_rfl) ?_ _
                                refine NoPanic.normal ?_
                                clear hHeld
                                clear d1 hq2 hq3
                                go_wp2_with fail
                                go_meet
                                case rel => exact ⟨p, bm, LM, F2, F3, rfl, HB3.out, HOB3.out⟩
                            · have y6 : (what == 6) = false := beq_eq_false_iff_ne.2 x6
                              have z6 : decide (what = 6) = false := decide_eq_false x6
                              clear x6
                              by_cases x7 : what = 7
                              · have y7 : (what == 7) = true := beq_iff_eq.2 x7
                                have z7 : decide (what = 7) = true := decide_eq_true x7
                                clear x7
                                as_aux_lemma =>
                                  have HT1 := Lib.hid (rl_clear HB1.out.y)
                                  go_wp2_with fail
                                  refine HT1.out.mono ?_
                                  rintro e w2 ⟨rfl, F2, r2, f2, t2⟩
                                  have HB2 := Lib.hid (HB1.out.left r2 f2 t2)
                                  have HOB2 := Lib.hid (HOB.out.left f2 t2)
                                  clear r2 f2 t2 HT1
                                  go_wp2_with fail
                                  refine (yclear_any HB2.out.z).mono ?_
                                  rintro e w3 ⟨rfl, y3⟩
                                  have HB3 := Lib.hid (HB2.out.right y3)
                                  have HOB3 := Lib.hid (HOB2.out.right y3.2.1 y3.2.2)
                                  clear y3
                                  go_wp2_with fail
                                  go_meet
                                  case rel => exact ⟨p, b, (fun _ => []), F2, F', rfl, HB3.out, HOB3.out⟩
                              · have y7 : (what == 7) = false := beq_eq_false_iff_ne.2 x7
                                have z7 : decide (what = 7) = false := decide_eq_false x7
                                clear x7
                                by_cases x8 : what = 8
                                · have y8 : (what == 8) = true := beq_iff_eq.2 x8
                                  have z8 : decide (what = 8) = true := decide_eq_true x8
                                  clear x8
                                  as_aux_lemma =>
                                    obtain ⟨gp, hgp⟩ : ∃ v : Nat, IntKind.u64.wrap ((gen : Int) + 1) = (v : Int) := by
                                      have h := HG.out.1.1
                                      by_cases hh : gen + 1 < 18446744073709551616
                                      · exact ⟨gen + 1, by rw [IntWalk.u64_in _ (by omega)]; push_cast; rfl⟩
                                      · obtain rfl : gen = 18446744073709551615 := by omega
                                        exact ⟨0, by decide⟩
                                    have HT1 := Lib.hid (rl_copy HB1.out.y)
                                    go_wp2_with fail
                                    refine HT1.out.mono ?_
                                    rintro e w2 ⟨p2, F2, rfl, r2, f2, k2⟩
                                    have hcp := HB1.out.copied r2 f2 k2
                                    have HB2 := Lib.hid hcp.1
                                    have HD2 := Lib.hid hcp.2
                                    have HOB2 : Hid (OpB w2 gs #[.int .i64 what, .int .u64 (gen : Int), .int .u64 (sent : Int), .slice Aa na ca, .slice Ab nb cb, .slice Ay ny cy] F2 F') := HOB.out.left (fun x e => Or.inr (f2 x e)) (Turned.of_keep k2)
                                    have HA2 := Lib.hid (HA1.out.keepN k2)
                                    have HP2 := Lib.hid (HP1.out.keepN k2)
                                    have HT2 := Lib.hid (rl_take_all (HB1.out.y.keep k2) gen HG.out.1.1 w.heap.size w.heap.size na nb ca cb Aa Ab xa xb HA1.out.2.2.1 HP1.out.2.2.1 (HA2.out.bytes fun _ e => e) (HP2.out.bytes fun _ e => e) HB2.out.keep.size HB2.out.keep.size)
                                    have d1 : w2.cell? ⟨gs, 1, none⟩ = some (.int .u64 (gen : Int)) := cell_of_row _ _ _ _ _ _ HOB2.out.b
                                    have d3 : w2.cell? ⟨gs, 3, none⟩ = some (.slice Aa na ca) := cell_of_row _ _ _ _ _ _ HOB2.out.b
                                    have d4 : w2.cell? ⟨gs, 4, none⟩ = some (.slice Ab nb cb) := cell_of_row _ _ _ _ _ _ HOB2.out.b
                                    clear hcp r2 f2 k2 HT1
                                    go_wp2_with fail
                                    refine HT2.out.mono ?_
                                    rintro e w3 ⟨rfl, F3, r3, f3, t3⟩
                                    have has := HB2.out.aside t3 HD2.out f3
                                    have HB3 := Lib.hid has.1
                                    have HD3 := Lib.hid has.2
                                    have HOB3 := Lib.hid (HOB2.out.other t3 HOB.out.n)
                                    have hnF : ¬ F3 gs := fun e => by
                                      rcases f3 gs e with e | e
                                      · exact HOB.out.n e
                                      · have := HOB2.out.lt; omega
                                    have HNF := Lib.hid hnF
                                    have HT3 := Lib.hid (rl_move_all r3 gp)
                                    have g1 : w3.cell? ⟨gs, 1, none⟩ = some (.int .u64 (gen : Int)) := cell_of_row _ _ _ _ _ _ HOB3.out.b
                                    clear has r3 f3 t3 hnF d1 d3 d4 HT2
                                    go_wp2_with fail
                                    refine HT3.out.mono ?_
                                    rintro e w4 ⟨rfl, F4, r4, f4, t4⟩
                                    have HB4 := Lib.hid (HB3.out.other t4 HD3.out)
                                    have HOB4 := Lib.hid (HOB3.out.other t4 HNF.out)
                                    clear r4 f4 t4 g1 hgp
                                    go_wp2_with fail
                                    go_meet
                                    case rel => exact ⟨p2, b, L, F2, F', rfl, HB4.out, HOB4.out⟩
                                · have y8 : (what == 8) = false := beq_eq_false_iff_ne.2 x8
                                  have z8 : decide (what = 8) = false := decide_eq_false x8
                                  clear x8
                                  by_cases x9 : what = 9
                                  · have y9 : (what == 9) = true := beq_iff_eq.2 x9
                                    have z9 : decide (what = 9) = true := decide_eq_true x9
                                    clear x9
                                    as_aux_lemma =>
                                      have HT1 := Lib.hid (rl_copy HB1.out.y)
                                      go_wp2_with fail
                                      refine HT1.out.mono ?_
                                      rintro e w2 ⟨p2, F2, rfl, r2, f2, k2⟩
                                      have HB2 := Lib.hid (HB1.out.later k2)
                                      have hd2 : ∀ a, F2 a → w.heap.size ≤ a ∧ ¬ F a ∧ ¬ F' a := fun a e => HB1.out.new_apart (f2 a e)
                                      have HD2 := Lib.hid hd2
                                      have HOB2 := Lib.hid (HOB.out.later k2)
                                      have hn2 : ¬ F2 gs := fun e => by have h1 := f2 gs e; have h2 := HOB.out.lt; omega
                                      have HN2 := Lib.hid hn2
                                      have HA2 := Lib.hid (HA1.out.keepN k2)
                                      have HP2 := Lib.hid (HP1.out.keepN k2)
                                      have HT2 := Lib.hid (rl_take_all r2 gen HG.out.1.1 w.heap.size w.heap.size na nb ca cb Aa Ab xa xb HA1.out.2.2.1 HP1.out.2.2.1 (HA2.out.bytes fun _ e => e) (HP2.out.bytes fun _ e => e) HB2.out.keep.size HB2.out.keep.size)
                                      have d1 : w2.cell? ⟨gs, 1, none⟩ = some (.int .u64 (gen : Int)) := cell_of_row _ _ _ _ _ _ HOB2.out.b
                                      have d3 : w2.cell? ⟨gs, 3, none⟩ = some (.slice Aa na ca) := cell_of_row _ _ _ _ _ _ HOB2.out.b
                                      have d4 : w2.cell? ⟨gs, 4, none⟩ = some (.slice Ab nb cb) := cell_of_row _ _ _ _ _ _ HOB2.out.b
                                      clear hd2 r2 f2 k2 hn2 HT1
                                      go_wp2_with fail
                                      refine HT2.out.mono ?_
                                      rintro e w3 ⟨rfl, F3, r3, f3, t3⟩
                                      have has := HB2.out.aside t3 HD2.out f3
                                      have HB3 := Lib.hid has.1
                                      have HD3 := Lib.hid has.2
                                      have HOB3 := Lib.hid (HOB2.out.other t3 HN2.out)
                                      have hnF : ¬ F3 gs := fun e => by
                                        rcases f3 gs e with e | e
                                        · exact HN2.out e
                                        · have := HOB2.out.lt; omega
                                      have HNF := Lib.hid hnF
                                      have HT3 := Lib.hid (rl_clear r3)
                                      clear has r3 f3 t3 hnF d1 d3 d4 HT2
                                      go_wp2_with fail
                                      refine HT3.out.mono ?_
                                      rintro e w4 ⟨rfl, F4, r4, f4, t4⟩
                                      have HB4 := Lib.hid (HB3.out.other t4 HD3.out)
                                      have HOB4 := Lib.hid (HOB3.out.other t4 HNF.out)
                                      clear r4 f4 t4
                                      go_wp2_with fail
                                      go_meet
                                      case rel => exact ⟨p, b, L, F, F', rfl, HB4.out, HOB4.out⟩
                                  · have y9 : (what == 9) = false := beq_eq_false_iff_ne.2 x9
                                    have z9 : decide (what = 9) = false := decide_eq_false x9
                                    clear x9
                                    go_wp2_with fail
                                    go_meet
                                    case rel => exact ⟨p, b, L, F, F', rfl, HB1.out, HOB.out⟩
              case rest =>
                as_aux_lemma =>
                  obtain ⟨p2, b2, L2, F2, F2', rfl, hb, ho⟩ := hcut
                  obtain ⟨wo, rfl⟩ : ∃ wo, wo = wc := ⟨_, rfl⟩
                  have HBO := Lib.hid hb
                  have HOO := Lib.hid ho
                  clear hb ho HB1 HOB HA1 HP1 HY1 HX
                  have d1 : wo.cell? ⟨gs, 1, none⟩ = some (.int .u64 (gen : Int)) := cell_of_row _ _ _ _ _ _ HOO.out.b
                  have HT1 := Lib.hid (rl_rows HBO.out.y gen HG.out.1.1)
                  obtain ⟨m, hm⟩ : ∃ v, (L2 gen).length = v := ⟨_, rfl⟩
                  have hm5 : m ≤ 255 := by rw [← hm]; have := (HBO.out.y.bas gen).length_le; omega
                  have HM := Lib.hid hm
                  clear hm
                  go_wp2_with fail
                  refine HT1.out.mono ?_
                  rintro e w2 ⟨A2, r2, c2, ps, rfl, o2⟩
                  have HTLD0 := Lib.hid (TolR.start o2)
                  have hr2 : r2 = m := by rw [← o2.1.length, ← HM.out, ← o2.2.2.1, List.length_map]
                  obtain rfl : m = r2 := hr2.symm
                  have HPS : Hid (ps.map PairV.xs = L2 gen ∧ ∀ p ∈ ps, p.a.xs.length = g') := ⟨o2.2.2.1, fun p hp => by rw [(o2.2.1 p hp).1.length]; exact (o2.2.1 p hp).2.2.1⟩
                  have HSTD0 := Lib.hid o2.stIn
                  have HB2 := Lib.hid (HBO.out.later o2.2.2.2)
                  have HO2 := Lib.hid (HOO.out.later o2.2.2.2)
                  clear o2 hr2 d1 HT1
                  go_upto_region 56 with fail
                  go_cut [302] from 251 to 302 (fun v wx => v = .bool false ∧ ∃ F3, BothR w wx p2 q g' s' k' b2 L2 b2 L2 F2 F3 ∧ TolR wo w2 wx A2 m c2 g' s' ps ∧ ∀ a, wo.heap.size ≤ a → a < w2.heap.size → ¬ F3 a)
                  case first =>
                    as_aux_lemma =>
                      have HBD := Lib.hid (HB2.out.later (Keep.drew (Keep.refl w2)))
                      have HOD := Lib.hid (HO2.out.later (Keep.drew (Keep.refl w2)))
                      have HTLD := Lib.hid (HTLD0.out.later (Keep.drew (Keep.refl w2)))
                      have HSTD := Lib.hid (HSTD0.out.keep (Keep.drew (Keep.refl w2)))
                      have hyk : ∀ (w5 : World) (F4 : Nat → Prop), BothR w w5 p2 q g' s' k' b2 L2 b2 L2 F2 F4 → Calls Tryz.prog 26 #[.pointer (some ⟨q, 0, none⟩), .int .u64 (gen : Int)] w5 fun e w' => e = .returned (.int .i64 (m : Int)) ∧ ∃ F6, YNext w5 w' F4 F6 q g' s' k' b2 L2 := fun w5 F4 hb => by
                        have h := yrank_any hb.z gen
                        rw [HM.out] at h
                        exact h
                      have HYK := Lib.hid hyk
                      have z0 : ((m : Int) != (m : Int)) = false := by simp
                      have z1 : ((b2 : Int) != (b2 : Int)) = false := by simp
                      have d1 : w2.cell? ⟨gs, 1, none⟩ = some (.int .u64 (gen : Int)) := cell_of_row _ _ _ _ _ _ HO2.out.b
                      clear hyk
                      go_wp2_with fail
                      refine wp_region_noPanic ?_
                      refine wp_region_held_drew (S := fun wz => wz.cell? ⟨gs, 1, none⟩ = some (.int .u64 (gen : Int))) (by kernel_rfl) d1 (fun hHeld => ?_)
                      refine wpAnyH_take (i := 0) (v := ?_) rfl (by kernel_rfl) (by kernel_rfl) (by kernel_rfl) (fun _ _ _ h => h) (Or.inl ⟨by kernel_rfl, ?_⟩) hHeld ?_
                      rotate_left
                      · intro wq hSw
                        go_simp
                        all_goals with_reducible rfl
                      try simp only [Act.put, List.getElem_toArray, List.getElem_cons_succ, List.getElem_cons_zero, List.setIfInBounds_toArray, List.set_cons_zero, List.set_cons_succ]
                      refine wpAnyH_take (i := 1) (v := ?_) rfl (by kernel_rfl) (by kernel_rfl) (by kernel_rfl) (fun _ _ _ h => h) (Or.inl ⟨by kernel_rfl, ?_⟩) hHeld ?_
                      rotate_left
                      · intro wq hSw
                        go_simp
                        all_goals with_reducible rfl
                      try simp only [Act.put, List.getElem_toArray, List.getElem_cons_succ, List.getElem_cons_zero, List.setIfInBounds_toArray, List.set_cons_zero, List.set_cons_succ]
                      refine wpAnyH_take (i := 2) (v := ?_) rfl (by kernel_rfl) (by kernel_rfl) (by kernel_rfl) (fun _ _ _ h => h) (Or.inl ⟨by kernel_rfl, ?_⟩) hHeld ?_
                      rotate_left
                      · intro wq hSw
                        go_simp
                        all_goals with_reducible rfl
                      try simp only [Act.put, List.getElem_toArray, List.getElem_cons_succ, List.getElem_cons_zero, List.setIfInBounds_toArray, List.set_cons_zero, List.set_cons_succ]
                      refine wpAnyH_take (i := 3) (v := .int .u64 (gen : Int)) rfl (by kernel_rfl) (by kernel_rfl) (by kernel_rfl) (fun _ _ _ h => h) (Or.inl ⟨by kernel_rfl, fun wq hSw => load_u64R (x := .tmp 253) (by kernel_rfl) (by kernel_rfl) (hSw)⟩) hHeld ?_
                      try simp only [Act.put, List.getElem_toArray, List.getElem_cons_succ, List.getElem_cons_zero, List.setIfInBounds_toArray, List.set_cons_zero, List.set_cons_succ]
                      refine wpAnyH_ready (rs := [4]) (by kernel_rfl) (by simp) ?_
                      refine AllReadyH.cons rfl (fun K hK => ?_) AllReadyH.nil
                      go_simp
                      refine (yrows_any HBD.out.z gen).mono ?_
                      rintro e w4 ⟨A4, n4, c4, qs, F4, rfl, o4, l4, e4, y4⟩
                      have HB4 := Lib.hid (HBD.out.right y4)
                      have HO4 := Lib.hid (HOD.out.right y4.2.1 y4.2.2)
                      have HTL4 := Lib.hid (HTLD.out.turned y4.2.2 fun a ha hb => (HBO.out.new_apart hb.1).2.2 ha)
                      have HF4 : Hid (∀ a, wo.heap.size ≤ a → a < w2.heap.size → ¬ F4 a) := fun a h1 h2 e => by
                        rcases y4.2.1 a e with e | e
                        · exact (HBO.out.new_apart h1).2.2 e
                        · have h3 : w2.heap.size ≤ a := e
                          omega
                      have HST4 := Lib.hid (HSTD.out.turned y4.2.2 fun a hb ha => (HBO.out.new_apart hb.1).2.2 ha)
                      have HSU4 := Lib.hid (o4.stIn (F := fun x => x < w4.heap.size) (fun p hp => ⟨(l4 p hp).1.1.mono fun x e => y4.1.lt x e, (l4 p hp).1.2.mono fun x e => y4.1.lt x e⟩) fun x e => (o4.lt x e).2)
                      have hpx : pairXs ps = pairXs qs := pairs_toldP (g := g') (HPS.out.1.trans e4.symm) HPS.out.2 fun p hp => by rw [(l4 p hp).1.1.1]; exact (l4 p hp).2.1
                      have hsm := rpsame_any m n4 c2 c4 A2 A4 _ _ ps qs w4 HST4.out HSU4.out (fun x e => Nat.lt_of_lt_of_le e.2 y4.2.2.size) (fun x e => e) (by omega)
                      rw [decide_eq_true hpx] at hsm
                      have HSM := Lib.hid hsm
                      have hq4 : w4.cell? ⟨gs, 1, none⟩ = some (.int .u64 (gen : Int)) := cell_of_row _ _ _ _ _ _ HO4.out.b
                      have HS4 : Hid (w2.heap.size ≤ w4.heap.size) := y4.2.2.size
                      clear o4 l4 e4 y4 hpx hsm
                      refine hK.out _ _ hq4 (fun hHeld => ?_)
                      clear hK K
                      try simp only [Act.put, List.getElem_toArray, List.getElem_cons_succ, List.getElem_cons_zero, List.setIfInBounds_toArray, List.set_cons_zero, List.set_cons_succ]
                      refine wpAnyH_ready (rs := [5]) (by kernel_rfl) (by simp) ?_
                      refine AllReadyH.cons rfl (fun K hK => ?_) AllReadyH.nil
                      go_simp
                      refine (HSM.out).mono ?_
                      rintro e w5 ⟨rfl, kd, hw5⟩
                      have k5 : Keep w4 w5 := by rw [hw5]; exact (Keep.refl w4).drewN kd
                      have HB5 := Lib.hid (HB4.out.later k5)
                      have HO5 := Lib.hid (HO4.out.later k5)
                      have HTL5 := Lib.hid (HTL4.out.later k5)
                      have hq5 : w5.cell? ⟨gs, 1, none⟩ = some (.int .u64 (gen : Int)) := cell_of_row _ _ _ _ _ _ HO5.out.b
                      have hrk := rl_rank HB5.out.y gen HG.out.1.1
                      rw [HM.out] at hrk
                      have HRK := Lib.hid hrk
                      have HS5 : Hid (w2.heap.size ≤ w5.heap.size) := Nat.le_trans HS4.out k5.size
                      clear k5 hw5 hrk HSM HST4 HSU4
                      refine hK.out _ _ hq5 (fun hHeld => ?_)
                      clear hK K
                      try simp only [Act.put, List.getElem_toArray, List.getElem_cons_succ, List.getElem_cons_zero, List.setIfInBounds_toArray, List.set_cons_zero, List.set_cons_succ]
                      refine wpAnyH_take (i := 6) (v := ?_) rfl (by kernel_rfl) (by kernel_rfl) (by kernel_rfl) (fun _ _ _ h => h) (Or.inl ⟨by kernel_rfl, ?_⟩) hHeld ?_
                      rotate_left
                      · intro wq hSw
                        go_simp
                        all_goals with_reducible rfl
                      try simp only [Act.put, List.getElem_toArray, List.getElem_cons_succ, List.getElem_cons_zero, List.setIfInBounds_toArray, List.set_cons_zero, List.set_cons_succ]
                      refine wpAnyH_take (i := 7) (v := ?_) rfl (by kernel_rfl) (by kernel_rfl) (by kernel_rfl) (fun _ _ _ h => h) (Or.inl ⟨by kernel_rfl, ?_⟩) hHeld ?_
                      rotate_left
                      · intro wq hSw
                        go_simp
                        all_goals with_reducible rfl
                      try simp only [Act.put, List.getElem_toArray, List.getElem_cons_succ, List.getElem_cons_zero, List.setIfInBounds_toArray, List.set_cons_zero, List.set_cons_succ]
                      refine wpAnyH_take (i := 8) (v := ?_) rfl (by kernel_rfl) (by kernel_rfl) (by kernel_rfl) (fun _ _ _ h => h) (Or.inl ⟨by kernel_rfl, ?_⟩) hHeld ?_
                      rotate_left
                      · intro wq hSw
                        go_simp
                        all_goals with_reducible rfl
                      try simp only [Act.put, List.getElem_toArray, List.getElem_cons_succ, List.getElem_cons_zero, List.setIfInBounds_toArray, List.set_cons_zero, List.set_cons_succ]
                      refine wpAnyH_take (i := 9) (v := ?_) rfl (by kernel_rfl) (by kernel_rfl) (by kernel_rfl) (fun _ _ _ h => h) (Or.inl ⟨by kernel_rfl, ?_⟩) hHeld ?_
                      rotate_left
                      · intro wq hSw
                        go_simp
                        all_goals with_reducible rfl
                      try simp only [Act.put, List.getElem_toArray, List.getElem_cons_succ, List.getElem_cons_zero, List.setIfInBounds_toArray, List.set_cons_zero, List.set_cons_succ]
                      refine wpAnyH_take (i := 12) (v := ?_) rfl (by kernel_rfl) (by kernel_rfl) (by kernel_rfl) (fun _ _ _ h => h) (Or.inl ⟨by kernel_rfl, ?_⟩) hHeld ?_
                      rotate_left
                      · intro wq hSw
                        go_simp
                        all_goals with_reducible rfl
                      try simp only [Act.put, List.getElem_toArray, List.getElem_cons_succ, List.getElem_cons_zero, List.setIfInBounds_toArray, List.set_cons_zero, List.set_cons_succ]
                      refine wpAnyH_take (i := 13) (v := ?_) rfl (by kernel_rfl) (by kernel_rfl) (by kernel_rfl) (fun _ _ _ h => h) (Or.inl ⟨by kernel_rfl, ?_⟩) hHeld ?_
                      rotate_left
                      · intro wq hSw
                        go_simp
                        all_goals with_reducible rfl
                      try simp only [Act.put, List.getElem_toArray, List.getElem_cons_succ, List.getElem_cons_zero, List.setIfInBounds_toArray, List.set_cons_zero, List.set_cons_succ]
                      refine wpAnyH_take (i := 10) (v := .int .u64 (gen : Int)) rfl (by kernel_rfl) (by kernel_rfl) (by kernel_rfl) (fun _ _ _ h => h) (Or.inl ⟨by kernel_rfl, fun wq hSw => load_u64R (x := .tmp 260) (by kernel_rfl) (by kernel_rfl) (hSw)⟩) hHeld ?_
                      try simp only [Act.put, List.getElem_toArray, List.getElem_cons_succ, List.getElem_cons_zero, List.setIfInBounds_toArray, List.set_cons_zero, List.set_cons_succ]
                      refine wpAnyH_take (i := 14) (v := .int .u64 (gen : Int)) rfl (by kernel_rfl) (by kernel_rfl) (by kernel_rfl) (fun _ _ _ h => h) (Or.inl ⟨by kernel_rfl, fun wq hSw => load_u64R (x := .tmp 264) (by kernel_rfl) (by kernel_rfl) (hSw)⟩) hHeld ?_
                      try simp only [Act.put, List.getElem_toArray, List.getElem_cons_succ, List.getElem_cons_zero, List.setIfInBounds_toArray, List.set_cons_zero, List.set_cons_succ]
                      refine wpAnyH_ready (rs := [11]) (by kernel_rfl) (by simp) ?_
                      refine AllReadyH.cons rfl (fun K hK => ?_) AllReadyH.nil
                      go_simp
                      refine (HRK.out).mono ?_
                      rintro e w5b ⟨rfl, rfl⟩
                      refine hK.out _ _ hHeld (fun hHeld => ?_)
                      clear hK K
                      try simp only [Act.put, List.getElem_toArray, List.getElem_cons_succ, List.getElem_cons_zero, List.setIfInBounds_toArray, List.set_cons_zero, List.set_cons_succ]
                      refine wpAnyH_ready (rs := [15]) (by kernel_rfl) (by simp) ?_
                      refine AllReadyH.cons rfl (fun K hK => ?_) AllReadyH.nil
                      go_simp
                      refine (HYK.out _ _ HB5.out).mono ?_
                      rintro e w6 ⟨rfl, F6, y6⟩
                      have HB6 := Lib.hid (HB5.out.right y6)
                      have HO6 := Lib.hid (HO5.out.right y6.2.1 y6.2.2)
                      have HTL6 := Lib.hid (HTL5.out.turned y6.2.2 fun a ha hb => HF4.out a hb.1 hb.2 ha)
                      have HS6 : Hid (w2.heap.size ≤ w6.heap.size) := Nat.le_trans HS5.out y6.2.2.size
                      have HF6 : Hid (∀ a, wo.heap.size ≤ a → a < w2.heap.size → ¬ F6 a) := fun a h1 h2 e => by
                        rcases y6.2.1 a e with e | e
                        · exact HF4.out a h1 h2 e
                        · have := HS5.out; omega
                      have hq6 : w6.cell? ⟨gs, 1, none⟩ = some (.int .u64 (gen : Int)) := cell_of_row _ _ _ _ _ _ HO6.out.b
                      have HRS := Lib.hid (rl_ranks HB6.out.y)
                      clear y6 HRK
                      refine hK.out _ _ hq6 (fun hHeld => ?_)
                      clear hK K
                      try simp only [Act.put, List.getElem_toArray, List.getElem_cons_succ, List.getElem_cons_zero, List.setIfInBounds_toArray, List.set_cons_zero, List.set_cons_succ]
                      refine wpAnyH_take (i := 16) (v := ?_) rfl (by kernel_rfl) (by kernel_rfl) (by kernel_rfl) (fun _ _ _ h => h) (Or.inl ⟨by kernel_rfl, ?_⟩) hHeld ?_
                      rotate_left
                      · intro wq hSw
                        go_simp
                        all_goals with_reducible rfl
                      try simp only [Act.put, List.getElem_toArray, List.getElem_cons_succ, List.getElem_cons_zero, List.setIfInBounds_toArray, List.set_cons_zero, List.set_cons_succ]
                      refine wpAnyH_take (i := 17) (v := ?_) rfl (by kernel_rfl) (by kernel_rfl) (by kernel_rfl) (fun _ _ _ h => h) (Or.inl ⟨by kernel_rfl, ?_⟩) hHeld ?_
                      rotate_left
                      · intro wq hSw
                        go_simp
                        all_goals with_reducible rfl
                      try simp only [Act.put, List.getElem_toArray, List.getElem_cons_succ, List.getElem_cons_zero, List.setIfInBounds_toArray, List.set_cons_zero, List.set_cons_succ]
                      refine wpAnyH_take (i := 18) (v := ?_) rfl (by kernel_rfl) (by kernel_rfl) (by kernel_rfl) (fun _ _ _ h => h) (Or.inl ⟨by kernel_rfl, ?_⟩) hHeld ?_
                      rotate_left
                      · intro wq hSw
                        go_simp
                        all_goals with_reducible rfl
                      try simp only [Act.put, List.getElem_toArray, List.getElem_cons_succ, List.getElem_cons_zero, List.setIfInBounds_toArray, List.set_cons_zero, List.set_cons_succ]
                      refine wpAnyH_take (i := 19) (v := ?_) rfl (by kernel_rfl) (by kernel_rfl) (by kernel_rfl) (fun _ _ _ h => h) (Or.inl ⟨by kernel_rfl, ?_⟩) hHeld ?_
                      rotate_left
                      · intro wq hSw
                        go_simp
                        all_goals with_reducible rfl
                      try simp only [Act.put, List.getElem_toArray, List.getElem_cons_succ, List.getElem_cons_zero, List.setIfInBounds_toArray, List.set_cons_zero, List.set_cons_succ]
                      refine wpAnyH_take (i := 21) (v := ?_) rfl (by kernel_rfl) (by kernel_rfl) (by kernel_rfl) (fun _ _ _ h => h) (Or.inl ⟨by kernel_rfl, ?_⟩) hHeld ?_
                      rotate_left
                      · intro wq hSw
                        go_simp
                        all_goals with_reducible rfl
                      try simp only [Act.put, List.getElem_toArray, List.getElem_cons_succ, List.getElem_cons_zero, List.setIfInBounds_toArray, List.set_cons_zero, List.set_cons_succ]
                      refine wpAnyH_ready (rs := [20]) (by kernel_rfl) (by simp) ?_
                      refine AllReadyH.cons rfl (fun K hK => ?_) AllReadyH.nil
                      go_simp
                      refine (HRS.out).mono ?_
                      rintro e w7 ⟨A7, n7, c7, rfl, o7, k7⟩
                      have HB7 := Lib.hid (HB6.out.later k7)
                      have HO7 := Lib.hid (HO6.out.later k7)
                      have HTL7 := Lib.hid (HTL6.out.later k7)
                      have HK7 := Lib.hid o7
                      have HS7 : Hid (w2.heap.size ≤ w7.heap.size) := Nat.le_trans HS6.out k7.size
                      have hq7 : w7.cell? ⟨gs, 1, none⟩ = some (.int .u64 (gen : Int)) := cell_of_row _ _ _ _ _ _ HO7.out.b
                      clear o7 k7 HRS
                      refine hK.out _ _ hq7 (fun hHeld => ?_)
                      clear hK K
                      try simp only [Act.put, List.getElem_toArray, List.getElem_cons_succ, List.getElem_cons_zero, List.setIfInBounds_toArray, List.set_cons_zero, List.set_cons_succ]
                      refine wpAnyH_ready (rs := [22]) (by kernel_rfl) (by simp) ?_
                      refine AllReadyH.cons rfl (fun K hK => ?_) AllReadyH.nil
                      go_simp
                      refine (yranks_any HB7.out.z).mono ?_
                      rintro e w8 ⟨A8, n8, c8, F8, rfl, o8, y8⟩
                      have HB8 := Lib.hid (HB7.out.right y8)
                      have HO8 := Lib.hid (HO7.out.right y8.2.1 y8.2.2)
                      have HTL8 := Lib.hid (HTL7.out.turned y8.2.2 fun a ha hb => HF6.out a hb.1 hb.2 ha)
                      have HF8 : Hid (∀ a, wo.heap.size ≤ a → a < w2.heap.size → ¬ F8 a) := fun a h1 h2 e => by
                        rcases y8.2.1 a e with e | e
                        · exact HF6.out a h1 h2 e
                        · have h3 := HS7.out; omega
                      have hn7 : n7 ≤ 1000000 := by
                        have h1 := HK7.out.length
                        have h2 := rksOf_few L2 b2 k'
                        have h3 := HB8.out.y.fine.2.2.2.2.2.1
                        omega
                      have hsr := sameranks_any n7 n8 c7 c8 A7 A8 _ _ _ _ w8 (HK7.out.ins.turned y8.2.2 fun a ha e => by have h1 := HB6.out.z.lt a e; have h2 : w6.heap.size ≤ a := ha; omega) o8.ins hn7
                      rw [decide_eq_true rfl] at hsr
                      have HSR := Lib.hid hsr
                      have hq8 : w8.cell? ⟨gs, 1, none⟩ = some (.int .u64 (gen : Int)) := cell_of_row _ _ _ _ _ _ HO8.out.b
                      clear o8 y8 hn7 hsr HK7
                      refine hK.out _ _ hq8 (fun hHeld => ?_)
                      clear hK K
                      try simp only [Act.put, List.getElem_toArray, List.getElem_cons_succ, List.getElem_cons_zero, List.setIfInBounds_toArray, List.set_cons_zero, List.set_cons_succ]
                      refine wpAnyH_ready (rs := [23]) (by kernel_rfl) (by simp) ?_
                      refine AllReadyH.cons rfl (fun K hK => ?_) AllReadyH.nil
                      go_simp
                      refine (HSR.out).mono ?_
                      rintro e w9 ⟨rfl, k9⟩
                      have HB9 := Lib.hid (HB8.out.later k9)
                      have HO9 := Lib.hid (HO8.out.later k9)
                      have HTL9 := Lib.hid (HTL8.out.later k9)
                      obtain ⟨wb, hwin, hfw, hcw⟩ := HB9.out.z.win
                      have hq9 : w9.cell? ⟨gs, 1, none⟩ = some (.int .u64 (gen : Int)) := cell_of_row _ _ _ _ _ _ HO9.out.b
                      have hbs := rl_base HB9.out.y
                      have hin1 := rl_in HB9.out.y gen HG.out.1.1
                      have hin2 := rin_any gen hwin
                      have hwc0 := hwin.c0
                      obtain ⟨wi, hwi⟩ : ∃ v, winIn b2 k' gen = v := ⟨_, rfl⟩
                      rw [hwi] at hin1 hin2
                      have HIN1 := Lib.hid hin1
                      have HIN2 := Lib.hid hin2
                      have HBS := Lib.hid hbs
                      have z2 : (wi != wi) = false := by simp
                      clear k9 hwin hfw hbs hin1 hin2 hwi HSR
                      refine hK.out _ _ hq9 (fun hHeld => ?_)
                      clear hK K
                      try simp only [Act.put, List.getElem_toArray, List.getElem_cons_succ, List.getElem_cons_zero, List.setIfInBounds_toArray, List.set_cons_zero, List.set_cons_succ]
                      refine wpAnyH_strong (S' := fun wz => wz.cell? ⟨gs, 1, none⟩ = some (.int .u64 (gen : Int)) ∧ wz.cell? ⟨q, 2, none⟩ = some (.pointer (some ⟨wb, 0, none⟩)) ∧ wz.cell? ⟨wb, 0, none⟩ = some (.int .u64 (b2 : Int))) (fun wz h => h.1) _ _ _ _ ?_
                      have hHeld : w9.cell? ⟨gs, 1, none⟩ = some (.int .u64 (gen : Int)) ∧ w9.cell? ⟨q, 2, none⟩ = some (.pointer (some ⟨wb, 0, none⟩)) ∧ w9.cell? ⟨wb, 0, none⟩ = some (.int .u64 (b2 : Int)) := ⟨hq9, hcw, hwc0⟩
                      refine wpAnyH_take (i := 24) (v := ?_) rfl (by kernel_rfl) (by kernel_rfl) (by kernel_rfl) (fun _ _ _ h => h) (Or.inl ⟨by kernel_rfl, ?_⟩) hHeld ?_
                      rotate_left
                      · intro wq hSw
                        go_simp
                        all_goals with_reducible rfl
                      try simp only [Act.put, List.getElem_toArray, List.getElem_cons_succ, List.getElem_cons_zero, List.setIfInBounds_toArray, List.set_cons_zero, List.set_cons_succ]
                      refine wpAnyH_take (i := 25) (v := ?_) rfl (by kernel_rfl) (by kernel_rfl) (by kernel_rfl) (fun _ _ _ h => h) (Or.inl ⟨by kernel_rfl, ?_⟩) hHeld ?_
                      rotate_left
                      · intro wq hSw
                        go_simp
                        all_goals with_reducible rfl
                      try simp only [Act.put, List.getElem_toArray, List.getElem_cons_succ, List.getElem_cons_zero, List.setIfInBounds_toArray, List.set_cons_zero, List.set_cons_succ]
                      refine wpAnyH_take (i := 26) (v := ?_) rfl (by kernel_rfl) (by kernel_rfl) (by kernel_rfl) (fun _ _ _ h => h) (Or.inl ⟨by kernel_rfl, ?_⟩) hHeld ?_
                      rotate_left
                      · intro wq hSw
                        go_simp
                        all_goals with_reducible rfl
                      try simp only [Act.put, List.getElem_toArray, List.getElem_cons_succ, List.getElem_cons_zero, List.setIfInBounds_toArray, List.set_cons_zero, List.set_cons_succ]
                      refine wpAnyH_take (i := 27) (v := ?_) rfl (by kernel_rfl) (by kernel_rfl) (by kernel_rfl) (fun _ _ _ h => h) (Or.inl ⟨by kernel_rfl, ?_⟩) hHeld ?_
                      rotate_left
                      · intro wq hSw
                        go_simp
                        all_goals with_reducible rfl
                      try simp only [Act.put, List.getElem_toArray, List.getElem_cons_succ, List.getElem_cons_zero, List.setIfInBounds_toArray, List.set_cons_zero, List.set_cons_succ]
                      refine wpAnyH_take (i := 29) (v := ?_) rfl (by kernel_rfl) (by kernel_rfl) (by kernel_rfl) (fun _ _ _ h => h) (Or.inl ⟨by kernel_rfl, ?_⟩) hHeld ?_
                      rotate_left
                      · intro wq hSw
                        go_simp
                        all_goals with_reducible rfl
                      try simp only [Act.put, List.getElem_toArray, List.getElem_cons_succ, List.getElem_cons_zero, List.setIfInBounds_toArray, List.set_cons_zero, List.set_cons_succ]
                      refine wpAnyH_take (i := 30) (v := ?_) rfl (by kernel_rfl) (by kernel_rfl) (by kernel_rfl) (fun _ _ _ h => h) (Or.inl ⟨by kernel_rfl, ?_⟩) hHeld ?_
                      rotate_left
                      · intro wq hSw
                        go_simp
                        all_goals with_reducible rfl
                      try simp only [Act.put, List.getElem_toArray, List.getElem_cons_succ, List.getElem_cons_zero, List.setIfInBounds_toArray, List.set_cons_zero, List.set_cons_succ]
                      refine wpAnyH_take (i := 31) (v := ?_) rfl (by kernel_rfl) (by kernel_rfl) (by kernel_rfl) (fun _ _ _ h => h) (Or.inl ⟨by kernel_rfl, ?_⟩) hHeld ?_
                      rotate_left
                      · intro wq hSw
                        go_simp
                        all_goals with_reducible rfl
                      try simp only [Act.put, List.getElem_toArray, List.getElem_cons_succ, List.getElem_cons_zero, List.setIfInBounds_toArray, List.set_cons_zero, List.set_cons_succ]
                      refine wpAnyH_take (i := 32) (v := .pointer (some ⟨wb, 0, none⟩)) rfl (by kernel_rfl) (by kernel_rfl) (by kernel_rfl) (fun _ _ _ h => h) (Or.inl ⟨by kernel_rfl, fun wq hSw => load_winR (x := .tmp 282) (by kernel_rfl) (by kernel_rfl) (hSw.2.1)⟩) hHeld ?_
                      try simp only [Act.put, List.getElem_toArray, List.getElem_cons_succ, List.getElem_cons_zero, List.setIfInBounds_toArray, List.set_cons_zero, List.set_cons_succ]
                      refine wpAnyH_take (i := 33) (v := ?_) rfl (by kernel_rfl) (by kernel_rfl) (by kernel_rfl) (fun _ _ _ h => h) (Or.inl ⟨by kernel_rfl, ?_⟩) hHeld ?_
                      rotate_left
                      · intro wq hSw
                        go_simp
                        all_goals with_reducible rfl
                      try simp only [Act.put, List.getElem_toArray, List.getElem_cons_succ, List.getElem_cons_zero, List.setIfInBounds_toArray, List.set_cons_zero, List.set_cons_succ]
                      refine wpAnyH_take (i := 34) (v := ?_) rfl (by kernel_rfl) (by kernel_rfl) (by kernel_rfl) (fun _ _ _ h => h) (Or.inl ⟨by kernel_rfl, ?_⟩) hHeld ?_
                      rotate_left
                      · intro wq hSw
                        go_simp
                        all_goals with_reducible rfl
                      try simp only [Act.put, List.getElem_toArray, List.getElem_cons_succ, List.getElem_cons_zero, List.setIfInBounds_toArray, List.set_cons_zero, List.set_cons_succ]
                      refine wpAnyH_take (i := 35) (v := .int .u64 (b2 : Int)) rfl (by kernel_rfl) (by kernel_rfl) (by kernel_rfl) (fun _ _ _ h => h) (Or.inl ⟨by kernel_rfl, fun wq hSw => load_u64R (x := .tmp 285) (by kernel_rfl) (by kernel_rfl) (hSw.2.2)⟩) hHeld ?_
                      try simp only [Act.put, List.getElem_toArray, List.getElem_cons_succ, List.getElem_cons_zero, List.setIfInBounds_toArray, List.set_cons_zero, List.set_cons_succ]
                      refine wpAnyH_ready (rs := [28]) (by kernel_rfl) (by simp) ?_
                      refine AllReadyH.cons rfl (fun K hK => ?_) AllReadyH.nil
                      go_simp
                      refine (HBS.out).mono ?_
                      rintro e w9b ⟨rfl, rfl⟩
                      refine hK.out _ _ hHeld (fun hHeld => ?_)
                      clear hK K
                      try simp only [Act.put, List.getElem_toArray, List.getElem_cons_succ, List.getElem_cons_zero, List.setIfInBounds_toArray, List.set_cons_zero, List.set_cons_succ]
                      refine wpAnyH_take (i := 36) (v := ?_) rfl (by kernel_rfl) (by kernel_rfl) (by kernel_rfl) (fun _ _ _ h => h) (Or.inl ⟨by kernel_rfl, ?_⟩) hHeld ?_
                      rotate_left
                      · intro wq hSw
                        go_simp
                        all_goals with_reducible rfl
                      try simp only [Act.put, List.getElem_toArray, List.getElem_cons_succ, List.getElem_cons_zero, List.setIfInBounds_toArray, List.set_cons_zero, List.set_cons_succ]
                      refine wpAnyH_take (i := 37) (v := ?_) rfl (by kernel_rfl) (by kernel_rfl) (by kernel_rfl) (fun _ _ _ h => h) (Or.inl ⟨by kernel_rfl, ?_⟩) hHeld ?_
                      rotate_left
                      · intro wq hSw
                        go_simp
                        all_goals with_reducible rfl
                      try simp only [Act.put, List.getElem_toArray, List.getElem_cons_succ, List.getElem_cons_zero, List.setIfInBounds_toArray, List.set_cons_zero, List.set_cons_succ]
                      refine wpAnyH_take (i := 38) (v := ?_) rfl (by kernel_rfl) (by kernel_rfl) (by kernel_rfl) (fun _ _ _ h => h) (Or.inl ⟨by kernel_rfl, ?_⟩) hHeld ?_
                      rotate_left
                      · intro wq hSw
                        go_simp
                        all_goals with_reducible rfl
                      try simp only [Act.put, List.getElem_toArray, List.getElem_cons_succ, List.getElem_cons_zero, List.setIfInBounds_toArray, List.set_cons_zero, List.set_cons_succ]
                      refine wpAnyH_take (i := 39) (v := ?_) rfl (by kernel_rfl) (by kernel_rfl) (by kernel_rfl) (fun _ _ _ h => h) (Or.inl ⟨by kernel_rfl, ?_⟩) hHeld ?_
                      rotate_left
                      · intro wq hSw
                        go_simp
                        all_goals with_reducible rfl
                      try simp only [Act.put, List.getElem_toArray, List.getElem_cons_succ, List.getElem_cons_zero, List.setIfInBounds_toArray, List.set_cons_zero, List.set_cons_succ]
                      refine wpAnyH_take (i := 40) (v := ?_) rfl (by kernel_rfl) (by kernel_rfl) (by kernel_rfl) (fun _ _ _ h => h) (Or.inl ⟨by kernel_rfl, ?_⟩) hHeld ?_
                      rotate_left
                      · intro wq hSw
                        go_simp
                        all_goals with_reducible rfl
                      try simp only [Act.put, List.getElem_toArray, List.getElem_cons_succ, List.getElem_cons_zero, List.setIfInBounds_toArray, List.set_cons_zero, List.set_cons_succ]
                      refine wpAnyH_take (i := 41) (v := .int .u64 (gen : Int)) rfl (by kernel_rfl) (by kernel_rfl) (by kernel_rfl) (fun _ _ _ h => h) (Or.inl ⟨by kernel_rfl, fun wq hSw => load_u64R (x := .tmp 291) (by kernel_rfl) (by kernel_rfl) (hSw.1)⟩) hHeld ?_
                      try simp only [Act.put, List.getElem_toArray, List.getElem_cons_succ, List.getElem_cons_zero, List.setIfInBounds_toArray, List.set_cons_zero, List.set_cons_succ]
                      refine wpAnyH_take (i := 43) (v := ?_) rfl (by kernel_rfl) (by kernel_rfl) (by kernel_rfl) (fun _ _ _ h => h) (Or.inl ⟨by kernel_rfl, ?_⟩) hHeld ?_
                      rotate_left
                      · intro wq hSw
                        go_simp
                        all_goals with_reducible rfl
                      try simp only [Act.put, List.getElem_toArray, List.getElem_cons_succ, List.getElem_cons_zero, List.setIfInBounds_toArray, List.set_cons_zero, List.set_cons_succ]
                      refine wpAnyH_take (i := 44) (v := ?_) rfl (by kernel_rfl) (by kernel_rfl) (by kernel_rfl) (fun _ _ _ h => h) (Or.inl ⟨by kernel_rfl, ?_⟩) hHeld ?_
                      rotate_left
                      · intro wq hSw
                        go_simp
                        all_goals with_reducible rfl
                      try simp only [Act.put, List.getElem_toArray, List.getElem_cons_succ, List.getElem_cons_zero, List.setIfInBounds_toArray, List.set_cons_zero, List.set_cons_succ]
                      refine wpAnyH_take (i := 45) (v := ?_) rfl (by kernel_rfl) (by kernel_rfl) (by kernel_rfl) (fun _ _ _ h => h) (Or.inl ⟨by kernel_rfl, ?_⟩) hHeld ?_
                      rotate_left
                      · intro wq hSw
                        go_simp
                        all_goals with_reducible rfl
                      try simp only [Act.put, List.getElem_toArray, List.getElem_cons_succ, List.getElem_cons_zero, List.setIfInBounds_toArray, List.set_cons_zero, List.set_cons_succ]
                      refine wpAnyH_take (i := 46) (v := .pointer (some ⟨wb, 0, none⟩)) rfl (by kernel_rfl) (by kernel_rfl) (by kernel_rfl) (fun _ _ _ h => h) (Or.inl ⟨by kernel_rfl, fun wq hSw => load_winR (x := .tmp 296) (by kernel_rfl) (by kernel_rfl) (hSw.2.1)⟩) hHeld ?_
                      try simp only [Act.put, List.getElem_toArray, List.getElem_cons_succ, List.getElem_cons_zero, List.setIfInBounds_toArray, List.set_cons_zero, List.set_cons_succ]
                      refine wpAnyH_take (i := 47) (v := ?_) rfl (by kernel_rfl) (by kernel_rfl) (by kernel_rfl) (fun _ _ _ h => h) (Or.inl ⟨by kernel_rfl, ?_⟩) hHeld ?_
                      rotate_left
                      · intro wq hSw
                        go_simp
                        all_goals with_reducible rfl
                      try simp only [Act.put, List.getElem_toArray, List.getElem_cons_succ, List.getElem_cons_zero, List.setIfInBounds_toArray, List.set_cons_zero, List.set_cons_succ]
                      refine wpAnyH_take (i := 48) (v := .int .u64 (gen : Int)) rfl (by kernel_rfl) (by kernel_rfl) (by kernel_rfl) (fun _ _ _ h => h) (Or.inl ⟨by kernel_rfl, fun wq hSw => load_u64R (x := .tmp 298) (by kernel_rfl) (by kernel_rfl) (hSw.1)⟩) hHeld ?_
                      try simp only [Act.put, List.getElem_toArray, List.getElem_cons_succ, List.getElem_cons_zero, List.setIfInBounds_toArray, List.set_cons_zero, List.set_cons_succ]
                      refine wpAnyH_ready (rs := [42]) (by kernel_rfl) (by simp) ?_
                      refine AllReadyH.cons rfl (fun K hK => ?_) AllReadyH.nil
                      go_simp
                      refine (HIN1.out).mono ?_
                      rintro e w9c ⟨rfl, rfl⟩
                      refine hK.out _ _ hHeld (fun hHeld => ?_)
                      clear hK K
                      try simp only [Act.put, List.getElem_toArray, List.getElem_cons_succ, List.getElem_cons_zero, List.setIfInBounds_toArray, List.set_cons_zero, List.set_cons_succ]
                      refine wpAnyH_ready (rs := [49]) (by kernel_rfl) (by simp) ?_
                      refine AllReadyH.cons rfl (fun K hK => ?_) AllReadyH.nil
                      go_simp
                      refine (HIN2.out).mono ?_
                      rintro e w10 ⟨rfl, k10⟩
                      have HB10 := Lib.hid (HB9.out.later k10)
                      have HO10 := Lib.hid (HO9.out.later k10)
                      have HTL10 := Lib.hid (HTL9.out.later k10)
                      have hq10 : w10.cell? ⟨gs, 1, none⟩ = some (.int .u64 (gen : Int)) ∧ w10.cell? ⟨q, 2, none⟩ = some (.pointer (some ⟨wb, 0, none⟩)) ∧ w10.cell? ⟨wb, 0, none⟩ = some (.int .u64 (b2 : Int)) := ⟨cell_of_row _ _ _ _ _ _ HO10.out.b, (World.cell?_of_block (k10.block _ (World.block_lt_of_cell? _ _ hcw))).trans hcw, (World.cell?_of_block (k10.block _ (World.block_lt_of_cell? _ _ hwc0))).trans hwc0⟩
                      clear k10
                      refine hK.out _ _ hq10 (fun hHeld => ?_)
                      clear hK K
                      try simp only [Act.put, List.getElem_toArray, List.getElem_cons_succ, List.getElem_cons_zero, List.setIfInBounds_toArray, List.set_cons_zero, List.set_cons_succ]
                      refine wpAnyH_take (i := 50) (v := ?_) rfl (by kernel_rfl) (by kernel_rfl) (by kernel_rfl) (fun _ _ _ h => h) (Or.inl ⟨by kernel_rfl, ?_⟩) hHeld ?_
                      rotate_left
                      · intro wq hSw
                        go_simp
                        all_goals with_reducible rfl
                      try simp only [Act.put, List.getElem_toArray, List.getElem_cons_succ, List.getElem_cons_zero, List.setIfInBounds_toArray, List.set_cons_zero, List.set_cons_succ]
                      refine wpAnyH_take (i := 51) (v := ?_) rfl (by kernel_rfl) (by kernel_rfl) (by kernel_rfl) (fun _ _ _ h => h) (Or.inl ⟨by kernel_rfl, ?_⟩) hHeld ?_
                      rotate_left
                      · intro wq hSw
                        go_simp
                        all_goals with_reducible rfl
                      try simp only [Act.put, List.getElem_toArray, List.getElem_cons_succ, List.getElem_cons_zero, List.setIfInBounds_toArray, List.set_cons_zero, List.set_cons_succ]
                      refine wpAnyH_done (by kernel_rfl) ?_ _
                      refine NoPanic.normal ?_
                      clear hHeld
                      clear d1 hq4 hq5 hq6 hq7 hq8 hq9 hq10 hcw hwc0
                      go_wp2_with fail
                      go_meet
                      case rel => exact ⟨rfl, F8, HB10.out, HTL10.out, HF8.out⟩
                  case rest =>
                    obtain ⟨rfl, F3, hb, htl, hf⟩ := hcut
                    have HB3 := Lib.hid hb
                    have HTL3 := Lib.hid htl
                    have HF3 : Hid (∀ a, wo.heap.size ≤ a → a < w2.heap.size → w.heap.size ≤ a ∧ ¬ F2 a ∧ ¬ F3 a) := fun a h1 h2 => ⟨(HBO.out.new_apart h1).1, (HBO.out.new_apart h1).2.1, hf a h1 h2⟩
                    clear hb htl hf HTLD0 HSTD0 HB2 HO2 HPS HM
                    obtain ⟨wl, rfl⟩ : ∃ wl, wl = wc := ⟨_, rfl⟩
                    go_wp2_with fail
                    go_loopw [32] (fun jv wz => ∃ j : Nat, j ≤ m ∧ jv = .int .i64 (j : Int) ∧ BothR w wz p2 q g' s' k' b2 L2 b2 L2 F2 F3 ∧ TolR wo w2 wz A2 m c2 g' s' ps) (fun jv _ => m - (intOf jv).toNat)
                    case atStart => exact ⟨0, by omega, rfl, HB3.out, HTL3.out⟩
                    case round =>
                      clear HB3 HTL3
                      obtain ⟨j, hj, rfl, hb, htl⟩ := hrel
                      have HB3 := Lib.hid hb
                      have HTL3 := Lib.hid htl
                      clear hb htl
                      have f0 : (0 : Int) ≤ (j : Int) := Int.natCast_nonneg _
                      by_cases hlt : j < m
                      · have f2 : (j : Int) < (m : Int) := by omega
                        obtain ⟨g5, hA5, hg5a, hg5⟩ := HTL3.out.st.block (by omega)
                        subst hA5
                        have hp := List.getElem?_eq_getElem (l := ps) (i := j) (by rw [HTL3.out.st.length]; exact hlt)
                        obtain ⟨pv, hpe⟩ : ∃ pv, ps[j]'(by rw [HTL3.out.st.length]; exact hlt) = pv := ⟨_, rfl⟩
                        rw [hpe] at hp
                        have HPM := Lib.hid (List.mem_of_getElem? hp)
                        obtain ⟨hv1, hv2⟩ := vals_at ps j pv hp
                        have hc1 := (World.ownsRow.cellAt HTL3.out.st (j * 2) (by omega)).trans hv1
                        have hc2 := (World.ownsRow.cellAt HTL3.out.st (j * 2 + 1) (by omega)).trans hv2
                        obtain ⟨⟨pA, pn, pc, px⟩, ⟨sA, sn, sc, sx⟩⟩ := pv
                        have hc1' : wr.cell? ⟨g5, j * 2, none⟩ = some (.slice pA pn pc) := hc1
                        have hc2' : wr.cell? ⟨g5, j * 2 + 1, none⟩ = some (.slice sA sn sc) := hc2
                        have HMI := Lib.hid (HTL3.out.mine _ HPM.out)
                        have hns : pn ≤ 1000000 ∧ sn ≤ 1000000 := ⟨by have h1 : pn = g' := HMI.out.2.2.1; omega, by have h1 : sn = s' := HMI.out.2.2.2; omega⟩
                        have HNS := Lib.hid hns
                        clear hp hpe hv1 hv2 hc1 hc2 hns hg5a hg5
                        go_wp2_with fail
                        refine (rowflip_any wo wr pn sn pc sc pA sA HMI.out.1 HMI.out.2.1 (by have := HNS.out.1; omega) (by have := HNS.out.2; omega)).mono ?_
                        rintro e w6 ⟨rfl, t6⟩
                        have hD : ∀ a, ((Value.slice pA pn pc).ownBlock = some a ∨ (Value.slice sA sn sc).ownBlock = some a) → wo.heap.size ≤ a ∧ a < w2.heap.size := fun a e => HTL3.out.apart HPM.out a e
                        have HB6 := Lib.hid (HB3.out.other t6.1 fun a e => HF3.out a (hD a e).1 (hD a e).2)
                        have HTL6 := Lib.hid (HTL3.out.flip HPM.out t6)
                        clear hD t6 hc1' hc2'
                        go_wp2_with fail
                        go_roundw
                        case rel => exact ⟨j + 1, by omega, by go_num, HB6.out, HTL6.out⟩
                        case measure => simp [intOf]; omega
                      · have f2 : ¬ (j : Int) < (m : Int) := by omega
                        go_wp2_with fail
                        go_roundw
                        case rel => exact ⟨i + 1, p2, b2, L2, F2, F3, by omega, by omega, by go_num, rfl, HB3.out⟩
                        case measure => simp [intOf]; omega
          | false =>
            clear hq
            go_wp2_with fail
            go_ret
            exact ⟨rfl, HB.out.keep⟩
  · have HN := Lib.hid (relnew_out g s k (by omega) w)
    have hz := fun w => rynew_out g s k hok w
    have HZ := Lib.hid hz
    clear hz hok
    go_enter Tryz.func3, Tryz.ntmps3
    go_wp2_with fail
    refine HN.out.mono ?_
    rintro e w1 ⟨rfl, hw1⟩
    have k1 : Keep w w1 := by first | exact hw1 | exact hw1 ▸ Keep.refl _
    have HK1 := Lib.hid k1
    clear k1 hw1
    go_wp2_with fail
    refine (HZ.out w1).mono ?_
    rintro e w2 ⟨rfl, k2⟩
    have HK2 := Lib.hid (HK1.out.trans k2)
    clear k2
    go_wp2_with fail
    refine (wakes_any w2).mono ?_
    rintro e w3 ⟨rfl, k3⟩
    have HK3 := Lib.hid (HK2.out.trans k3)
    clear k3
    go_wp2_with fail
    go_ret
    exact ⟨rfl, HK3.out⟩
end Go.Proofs.YtcjjhblgejkkeaaGreat
