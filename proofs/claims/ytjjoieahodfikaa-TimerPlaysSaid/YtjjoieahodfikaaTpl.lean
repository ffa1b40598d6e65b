/- TimerPlays. -/
import Derived.Test.YtjjoieahodfikaaQag
import Derived.Test.YtjjoieahodfikaaQab
import Derived.Deep.DeepCutAuto
import Derived.Deep.CutBlock
namespace Go.Proofs.Ytjjoieahodfikaa
open Go.RowKit Go.Maps Tmr
set_option linter.unusedVariables false
set_option linter.unusedSimpArgs false
set_option maxRecDepth 100000
theorem cells_three (W : World) (a b c : Value) (t : TypeId) : (W.alloc (.cells #[a, b, c] t)).cell? ⟨W.heap.size, 0, none⟩ = some a ∧ (W.alloc (.cells #[a, b, c] t)).cell? ⟨W.heap.size, 1, none⟩ = some b ∧ (W.alloc (.cells #[a, b, c] t)).cell? ⟨W.heap.size, 2, none⟩ = some c := ⟨by simp, by simp, by simp⟩
set_option maxHeartbeats 16000000 in
theorem tplays (n0 c0 : Nat) (A0 : Option Addr) (l0 : List OpT) (W : World) (hA : OpsT W W.heap.size A0 n0 l0) (hn : n0 ≤ 140737488351232) :
    Calls Try.prog 3 #[.slice A0 n0 c0] W fun r w' => r = .returned (.bool true) ∧ Keep W w' := by
  have HA := Lib.hid hA
  clear hA
  go_enter Try.func3, Try.ntmps3
  go_wp2_with fail
  refine (tawake W).mono ?_
  rintro r v0 ⟨rfl, k⟩
  have K0 := Lib.hid k
  clear k
  go_wp2_with fail
  refine (tnew_any v0).mono ?_
  rintro r v1 ⟨g1, mb1, rfl, t, k⟩
  have T0 := Lib.hid t
  have K1 := Lib.hid (K0.out.trans k)
  have HK0 : Hid (W.heap.size ≤ v0.heap.size) := Lib.hid K0.out.size
  have kb : Keep v1 (v1.alloc (.cells #[.int .u64 0, .slice none 0 0] 30)) := (Keep.refl v1).alloc _ _
  have B0 : Hid (BothT W (v1.alloc (.cells #[.int .u64 0, .slice none 0 0] 30)) g1 mb1 0 [] v1.heap.size v1.heap.size 0 none 0 0 []) := Lib.hid
    ⟨(by have h := t.keep kb; exact ⟨h.block, h.map, h.ap, by have := h.low; have := HK0.out; omega, h.rising, h.clock, h.fine, h.few⟩), ⟨heap_alloc_new v1 _, SAt.nothing _ _, fun b e => (by simp [Value.ownBlock] at e), Nat.le_refl _, List.Pairwise.nil, Nat.zero_le _, fun a ha => (nomatch ha), Nat.zero_le _⟩, K1.out.trans kb, ⟨⟨t.lt, t.mlt⟩, K1.out.size⟩⟩
  clear t k kb T0
  go_wp2_with fail
  go_loopw [24] (fun iv wr => ∃ (i clk n c : Nat) (A : Option Addr) (l : List Alarm), iv = .int .i64 i ∧ i ≤ n0 ∧ BothT W wr g1 mb1 clk l v1.heap.size v1.heap.size clk A n c l ∧ (i ≤ 200 ∧ n ≤ i)) (fun iv _ => n0 - (intOf iv).toNat)
  case atStart => exact ⟨0, 0, 0, 0, none, [], rfl, Nat.zero_le _, B0.out, by omega, by omega⟩
  case round =>
    obtain ⟨i, clk, n, c, A, l, rfl, hi, hb, hiv⟩ := hrel
    have HB := Lib.hid hb
    have HIV := Lib.hid hiv
    clear hb hiv B0
    by_cases hlt : i < n0
    · obtain ⟨bo, off, a, hA0, _, hla, hcell, hnm, hn1, hn2⟩ := HA.out.one hlt
      subst hA0
      obtain ⟨what, name, num⟩ := a
      obtain ⟨x0, x1, x2⟩ := hcell _ HB.out.k
      have g0 : (0 : Int) ≤ (i : Int) := Int.natCast_nonneg _
      have gl : (i : Int) < (n0 : Int) := by omega
      have kA : Keep wr (wr.alloc (.cells #[.int .i64 what, .int .i64 name, .int .u64 (num : Int)] 32)) := (Keep.refl wr).alloc _ _
      obtain ⟨y0, y1, y2⟩ := cells_three wr (.int .i64 what) (.int .i64 name) (.int .u64 (num : Int)) 32
      obtain ⟨w1, hw1⟩ : ∃ w1, wr.alloc (.cells #[.int .i64 what, .int .i64 name, .int .u64 (num : Int)] 32) = w1 := ⟨_, rfl⟩
      obtain ⟨o, ho⟩ : ∃ o, wr.heap.size = o := ⟨_, rfl⟩
      have HBL := HB.out.below
      rw [hw1] at kA y0 y1 y2
      rw [ho] at y0 y1 y2 HBL
      have HBW := Lib.hid HBL
      have T1 := Lib.hid (HB.out.later kA)
      have HNM : Hid (num < 18446744073709551616 ∧ -9223372036854775808 ≤ name ∧ name ≤ 9223372036854775807) := Lib.hid (And.intro hnm (And.intro hn1 hn2))
      have HLT := Lib.hid hlt
      have rwi : IntKind.i64.wrap ((i : Int) + 1) = (i : Int) + 1 := IntWalk.i64_in _ (by omega)
      by_cases h200 : i = 200
      · have c60 : decide ((i : Int) = 200) = true := decide_eq_true (by omega)
        have c60' : ((i : Int) == 200) = true := beq_iff_eq.2 (by omega)
        clear hla hcell hnm hn1 hn2 hlt hi kA HBL h200
        go_wp2_with fail
        go_ret
        exact ⟨rfl, T1.out.k⟩
      · have c60 : decide ((i : Int) = 200) = false := decide_eq_false (by omega)
        have c60' : ((i : Int) == 200) = false := beq_eq_false_iff_ne.2 (by omega)
        have HI2 : Hid (i < 200 ∧ n ≤ i) := Lib.hid (by have := HIV.out; omega)
        have HLL : Hid (l.length = n) := Lib.hid T1.out.b.als.length
        clear hla hcell hnm hn1 hn2 hlt hi kA HBL h200
        go_upto_block 2 with fail
        go_cut [7, 8, 9, 10] from 33 to 87 (fun ev fv xv yv wx => ∃ (E : Int) (clk n c : Nat) (A : Option Addr) (l : List Alarm), ev = .int .i64 E ∧ fv = .int .i64 E ∧ BothT W wx g1 mb1 clk l v1.heap.size v1.heap.size clk A n c l ∧ n ≤ i + 1)
        case first =>
          by_cases q0 : what = 0
          · have e0 : (what == 0) = true := beq_iff_eq.2 q0
            have f0 : decide (what = 0) = true := decide_eq_true q0
            clear q0
            go_upto_region 11 with fail
            refine wp_region_noPanic ?_
            refine wp_region_held_drew (S := fun wz => wz.cell? ⟨o, 1, none⟩ = some (.int .i64 name) ∧ wz.cell? ⟨o, 2, none⟩ = some (.int .u64 (num : Int))) (by kernel_rfl) (And.intro y1 y2) (fun hHeld => ?_)
            refine wpAnyH_take (i := 0) (v := ?_) rfl (by kernel_rfl) (by kernel_rfl) (by kernel_rfl) (fun _ _ _ h => h) (Or.inl ⟨by rfl, ?_⟩) hHeld ?_
            rotate_left
            · intro wq hSw
              go_simp
              all_goals with_reducible rfl
            try simp only [Act.put, List.getElem_toArray, List.getElem_cons_succ, List.getElem_cons_zero, List.setIfInBounds_toArray, List.set_cons_zero, List.set_cons_succ]
            refine wpAnyH_take (i := 1) (v := ?_) rfl (by kernel_rfl) (by kernel_rfl) (by kernel_rfl) (fun _ _ _ h => h) (Or.inl ⟨by rfl, ?_⟩) hHeld ?_
            rotate_left
            · intro wq hSw
              go_simp
              all_goals with_reducible rfl
            try simp only [Act.put, List.getElem_toArray, List.getElem_cons_succ, List.getElem_cons_zero, List.setIfInBounds_toArray, List.set_cons_zero, List.set_cons_succ]
            refine wpAnyH_take (i := 2) (v := ?_) rfl (by kernel_rfl) (by kernel_rfl) (by kernel_rfl) (fun _ _ _ h => h) (Or.inl ⟨by rfl, ?_⟩) hHeld ?_
            rotate_left
            · intro wq hSw
              have q0 := hSw.1
              go_simp
              all_goals with_reducible rfl
            try simp only [Act.put, List.getElem_toArray, List.getElem_cons_succ, List.getElem_cons_zero, List.setIfInBounds_toArray, List.set_cons_zero, List.set_cons_succ]
            refine wpAnyH_take (i := 3) (v := ?_) rfl (by kernel_rfl) (by kernel_rfl) (by kernel_rfl) (fun _ _ _ h => h) (Or.inl ⟨by rfl, ?_⟩) hHeld ?_
            rotate_left
            · intro wq hSw
              go_simp
              all_goals with_reducible rfl
            try simp only [Act.put, List.getElem_toArray, List.getElem_cons_succ, List.getElem_cons_zero, List.setIfInBounds_toArray, List.set_cons_zero, List.set_cons_succ]
            refine wpAnyH_take (i := 4) (v := ?_) rfl (by kernel_rfl) (by kernel_rfl) (by kernel_rfl) (fun _ _ _ h => h) (Or.inl ⟨by rfl, ?_⟩) hHeld ?_
            rotate_left
            · intro wq hSw
              have q0 := hSw.2
              go_simp
              all_goals with_reducible rfl
            try simp only [Act.put, List.getElem_toArray, List.getElem_cons_succ, List.getElem_cons_zero, List.setIfInBounds_toArray, List.set_cons_zero, List.set_cons_succ]
            refine wpAnyH_take (i := 6) (v := ?_) rfl (by kernel_rfl) (by kernel_rfl) (by kernel_rfl) (fun _ _ _ h => h) (Or.inl ⟨by rfl, ?_⟩) hHeld ?_
            rotate_left
            · intro wq hSw
              go_simp
              all_goals with_reducible rfl
            try simp only [Act.put, List.getElem_toArray, List.getElem_cons_succ, List.getElem_cons_zero, List.setIfInBounds_toArray, List.set_cons_zero, List.set_cons_succ]
            refine wpAnyH_take (i := 7) (v := ?_) rfl (by kernel_rfl) (by kernel_rfl) (by kernel_rfl) (fun _ _ _ h => h) (Or.inl ⟨by rfl, ?_⟩) hHeld ?_
            rotate_left
            · intro wq hSw
              go_simp
              all_goals with_reducible rfl
            try simp only [Act.put, List.getElem_toArray, List.getElem_cons_succ, List.getElem_cons_zero, List.setIfInBounds_toArray, List.set_cons_zero, List.set_cons_succ]
            refine wpAnyH_take (i := 8) (v := ?_) rfl (by kernel_rfl) (by kernel_rfl) (by kernel_rfl) (fun _ _ _ h => h) (Or.inl ⟨by rfl, ?_⟩) hHeld ?_
            rotate_left
            · intro wq hSw
              have q0 := hSw.1
              go_simp
              all_goals with_reducible rfl
            try simp only [Act.put, List.getElem_toArray, List.getElem_cons_succ, List.getElem_cons_zero, List.setIfInBounds_toArray, List.set_cons_zero, List.set_cons_succ]
            refine wpAnyH_take (i := 9) (v := ?_) rfl (by kernel_rfl) (by kernel_rfl) (by kernel_rfl) (fun _ _ _ h => h) (Or.inl ⟨by rfl, ?_⟩) hHeld ?_
            rotate_left
            · intro wq hSw
              go_simp
              all_goals with_reducible rfl
            try simp only [Act.put, List.getElem_toArray, List.getElem_cons_succ, List.getElem_cons_zero, List.setIfInBounds_toArray, List.set_cons_zero, List.set_cons_succ]
            refine wpAnyH_take (i := 10) (v := ?_) rfl (by kernel_rfl) (by kernel_rfl) (by kernel_rfl) (fun _ _ _ h => h) (Or.inl ⟨by rfl, ?_⟩) hHeld ?_
            rotate_left
            · intro wq hSw
              have q0 := hSw.2
              go_simp
              all_goals with_reducible rfl
            try simp only [Act.put, List.getElem_toArray, List.getElem_cons_succ, List.getElem_cons_zero, List.setIfInBounds_toArray, List.set_cons_zero, List.set_cons_succ]
            refine wpAnyH_ready (rs := [5]) (by kernel_rfl) (by simp) ?_
            refine AllReadyH.cons rfl (fun K hK => ?_) AllReadyH.nil
            go_simp
            refine (both_set_l (T1.out.later ((Keep.refl w1).drew)) name (by have := HNM.out; omega) HNM.out.2.1 num (by have := HLL.out; have := HI2.out; omega)).mono ?_
            rintro r w5 ⟨rfl, b5, t5⟩
            have S5 : Hid (w5.cell? ⟨o, 1, none⟩ = some (.int .i64 name) ∧ w5.cell? ⟨o, 2, none⟩ = some (.int .u64 (num : Int))) := Lib.hid ⟨t5.cell (show w1.drew.cell? _ = _ from y1) (fun e => by have := HBW.out.1 o e; omega), t5.cell (show w1.drew.cell? _ = _ from y2) (fun e => by have := HBW.out.1 o e; omega)⟩
            have T5 := Lib.hid b5
            clear b5 t5
            refine hK.out _ _ S5.out (fun hHeld => ?_)
            clear hK K
            try simp only [Act.put, List.getElem_toArray, List.getElem_cons_succ, List.getElem_cons_zero, List.setIfInBounds_toArray, List.set_cons_zero, List.set_cons_succ]
            refine wpAnyH_ready (rs := [11]) (by kernel_rfl) (by simp) ?_
            refine AllReadyH.cons rfl (fun K hK => ?_) AllReadyH.nil
            go_simp
            refine (both_set_d T5.out name (by have := HNM.out; omega) num (by have := HI2.out; omega)).mono ?_
            rintro r w6 ⟨A6, n6, c6, rfl, b6, t6, hn6⟩
            have S6 : Hid (w6.cell? ⟨o, 1, none⟩ = some (.int .i64 name) ∧ w6.cell? ⟨o, 2, none⟩ = some (.int .u64 (num : Int))) := Lib.hid ⟨t6.cell S5.out.1 (fun e => by have := HBW.out.2 o e; omega), t6.cell S5.out.2 (fun e => by have := HBW.out.2 o e; omega)⟩
            have T6 := Lib.hid b6
            clear b6 t6
            have HN6 : Hid (n6 ≤ i + 1) := Lib.hid (by have := HI2.out; omega)
            clear hn6
            refine hK.out _ _ S6.out (fun hHeld => ?_)
            clear hK K
            try simp only [Act.put, List.getElem_toArray, List.getElem_cons_succ, List.getElem_cons_zero, List.setIfInBounds_toArray, List.set_cons_zero, List.set_cons_succ]
            refine wpAnyH_take (i := 12) (v := ?_) rfl (by kernel_rfl) (by kernel_rfl) (by kernel_rfl) (fun _ _ _ h => h) (Or.inl ⟨by rfl, ?_⟩) hHeld ?_
            rotate_left
            · intro wq hSw
              go_simp
              all_goals with_reducible rfl
            try simp only [Act.put, List.getElem_toArray, List.getElem_cons_succ, List.getElem_cons_zero, List.setIfInBounds_toArray, List.set_cons_zero, List.set_cons_succ]
            refine wpAnyH_take (i := 13) (v := ?_) rfl (by kernel_rfl) (by kernel_rfl) (by kernel_rfl) (fun _ _ _ h => h) (Or.inl ⟨by rfl, ?_⟩) hHeld ?_
            rotate_left
            · intro wq hSw
              go_simp
              all_goals with_reducible rfl
            try simp only [Act.put, List.getElem_toArray, List.getElem_cons_succ, List.getElem_cons_zero, List.setIfInBounds_toArray, List.set_cons_zero, List.set_cons_succ]
            refine wpAnyH_done (by kernel_rfl) ?_ _
            refine NoPanic.normal ?_
            clear hHeld
            go_wp2_with fail
            go_meet
            case rel => exact ⟨_, clk, n6, c6, A6, _, rfl, rfl, T6.out, HN6.out⟩
          · have e0 : (what == 0) = false := beq_eq_false_iff_ne.2 q0
            have f0 : decide (what = 0) = false := decide_eq_false q0
            clear q0
            by_cases q1 : what = 1
            · have e1 : (what == 1) = true := beq_iff_eq.2 q1
              have f1 : decide (what = 1) = true := decide_eq_true q1
              clear q1
              go_upto_region 13 with fail
              refine wp_region_noPanic ?_
              refine wp_region_held_drew (S := fun wz => wz.cell? ⟨o, 1, none⟩ = some (.int .i64 name) ∧ wz.cell? ⟨o, 2, none⟩ = some (.int .u64 (num : Int))) (by kernel_rfl) (And.intro y1 y2) (fun hHeld => ?_)
              refine wpAnyH_take (i := 0) (v := ?_) rfl (by kernel_rfl) (by kernel_rfl) (by kernel_rfl) (fun _ _ _ h => h) (Or.inl ⟨by rfl, ?_⟩) hHeld ?_
              rotate_left
              · intro wq hSw
                go_simp
                all_goals with_reducible rfl
              try simp only [Act.put, List.getElem_toArray, List.getElem_cons_succ, List.getElem_cons_zero, List.setIfInBounds_toArray, List.set_cons_zero, List.set_cons_succ]
              refine wpAnyH_take (i := 1) (v := ?_) rfl (by kernel_rfl) (by kernel_rfl) (by kernel_rfl) (fun _ _ _ h => h) (Or.inl ⟨by rfl, ?_⟩) hHeld ?_
              rotate_left
              · intro wq hSw
                go_simp
                all_goals with_reducible rfl
              try simp only [Act.put, List.getElem_toArray, List.getElem_cons_succ, List.getElem_cons_zero, List.setIfInBounds_toArray, List.set_cons_zero, List.set_cons_succ]
              refine wpAnyH_take (i := 2) (v := ?_) rfl (by kernel_rfl) (by kernel_rfl) (by kernel_rfl) (fun _ _ _ h => h) (Or.inl ⟨by rfl, ?_⟩) hHeld ?_
              rotate_left
              · intro wq hSw
                have q0 := hSw.1
                go_simp
                all_goals with_reducible rfl
              try simp only [Act.put, List.getElem_toArray, List.getElem_cons_succ, List.getElem_cons_zero, List.setIfInBounds_toArray, List.set_cons_zero, List.set_cons_succ]
              refine wpAnyH_take (i := 4) (v := ?_) rfl (by kernel_rfl) (by kernel_rfl) (by kernel_rfl) (fun _ _ _ h => h) (Or.inl ⟨by rfl, ?_⟩) hHeld ?_
              rotate_left
              · intro wq hSw
                go_simp
                all_goals with_reducible rfl
              try simp only [Act.put, List.getElem_toArray, List.getElem_cons_succ, List.getElem_cons_zero, List.setIfInBounds_toArray, List.set_cons_zero, List.set_cons_succ]
              refine wpAnyH_take (i := 5) (v := ?_) rfl (by kernel_rfl) (by kernel_rfl) (by kernel_rfl) (fun _ _ _ h => h) (Or.inl ⟨by rfl, ?_⟩) hHeld ?_
              rotate_left
              · intro wq hSw
                go_simp
                all_goals with_reducible rfl
              try simp only [Act.put, List.getElem_toArray, List.getElem_cons_succ, List.getElem_cons_zero, List.setIfInBounds_toArray, List.set_cons_zero, List.set_cons_succ]
              refine wpAnyH_take (i := 6) (v := ?_) rfl (by kernel_rfl) (by kernel_rfl) (by kernel_rfl) (fun _ _ _ h => h) (Or.inl ⟨by rfl, ?_⟩) hHeld ?_
              rotate_left
              · intro wq hSw
                have q0 := hSw.1
                go_simp
                all_goals with_reducible rfl
              try simp only [Act.put, List.getElem_toArray, List.getElem_cons_succ, List.getElem_cons_zero, List.setIfInBounds_toArray, List.set_cons_zero, List.set_cons_succ]
              refine wpAnyH_ready (rs := [3]) (by kernel_rfl) (by simp) ?_
              refine AllReadyH.cons rfl (fun K hK => ?_) AllReadyH.nil
              go_simp
              refine (both_stop_l (T1.out.later ((Keep.refl w1).drew)) name (by have := HNM.out; omega) HNM.out.2.1).mono ?_
              rintro r w5 ⟨rfl, b5, t5⟩
              have S5 : Hid (w5.cell? ⟨o, 1, none⟩ = some (.int .i64 name) ∧ w5.cell? ⟨o, 2, none⟩ = some (.int .u64 (num : Int))) := Lib.hid ⟨t5.cell (show w1.drew.cell? _ = _ from y1) (fun e => by have := HBW.out.1 o e; omega), t5.cell (show w1.drew.cell? _ = _ from y2) (fun e => by have := HBW.out.1 o e; omega)⟩
              have T5 := Lib.hid b5
              clear b5 t5
              refine hK.out _ _ S5.out (fun hHeld => ?_)
              clear hK K
              try simp only [Act.put, List.getElem_toArray, List.getElem_cons_succ, List.getElem_cons_zero, List.setIfInBounds_toArray, List.set_cons_zero, List.set_cons_succ]
              refine wpAnyH_ready (rs := [7]) (by kernel_rfl) (by simp) ?_
              refine AllReadyH.cons rfl (fun K hK => ?_) AllReadyH.nil
              go_simp
              refine (both_stop_d T5.out name).mono ?_
              rintro r w6 ⟨A6, n6, c6, rfl, b6, t6, hn6⟩
              have S6 : Hid (w6.cell? ⟨o, 1, none⟩ = some (.int .i64 name) ∧ w6.cell? ⟨o, 2, none⟩ = some (.int .u64 (num : Int))) := Lib.hid ⟨t6.cell S5.out.1 (fun e => by have := HBW.out.2 o e; omega), t6.cell S5.out.2 (fun e => by have := HBW.out.2 o e; omega)⟩
              have T6 := Lib.hid b6
              clear b6 t6
              have HN6 : Hid (n6 ≤ i + 1) := Lib.hid (by have := HI2.out; omega)
              clear hn6
              refine hK.out _ _ S6.out (fun hHeld => ?_)
              clear hK K
              try simp only [Act.put, List.getElem_toArray, List.getElem_cons_succ, List.getElem_cons_zero, List.setIfInBounds_toArray, List.set_cons_zero, List.set_cons_succ]
              refine wpAnyH_take (i := 8) (v := ?_) rfl (by kernel_rfl) (by kernel_rfl) (by kernel_rfl) (fun _ _ _ h => h) (Or.inl ⟨by rfl, ?_⟩) hHeld ?_
              rotate_left
              · intro wq hSw
                go_simp
                all_goals with_reducible rfl
              try simp only [Act.put, List.getElem_toArray, List.getElem_cons_succ, List.getElem_cons_zero, List.setIfInBounds_toArray, List.set_cons_zero, List.set_cons_succ]
              refine wpAnyH_take (i := 9) (v := ?_) rfl (by kernel_rfl) (by kernel_rfl) (by kernel_rfl) (fun _ _ _ h => h) (Or.inl ⟨by rfl, ?_⟩) hHeld ?_
              rotate_left
              · intro wq hSw
                go_simp
                all_goals with_reducible rfl
              try simp only [Act.put, List.getElem_toArray, List.getElem_cons_succ, List.getElem_cons_zero, List.setIfInBounds_toArray, List.set_cons_zero, List.set_cons_succ]
              refine wpAnyH_done (by kernel_rfl) ?_ _
              refine NoPanic.normal ?_
              clear hHeld
              go_wp2_with fail
              go_meet
              case rel => exact ⟨_, clk, n6, c6, A6, _, rfl, rfl, T6.out, HN6.out⟩
            · have e1 : (what == 1) = false := beq_eq_false_iff_ne.2 q1
              have f1 : decide (what = 1) = false := decide_eq_false q1
              clear q1
              by_cases q2 : what = 2
              · have e2 : (what == 2) = true := beq_iff_eq.2 q2
                have f2 : decide (what = 2) = true := decide_eq_true q2
                clear q2
                go_upto_region 15 with fail
                refine wp_region_noPanic ?_
                refine wp_region_held_drew (S := fun wz => wz.cell? ⟨o, 1, none⟩ = some (.int .i64 name) ∧ wz.cell? ⟨o, 2, none⟩ = some (.int .u64 (num : Int))) (by kernel_rfl) (And.intro y1 y2) (fun hHeld => ?_)
                refine wpAnyH_take (i := 0) (v := ?_) rfl (by kernel_rfl) (by kernel_rfl) (by kernel_rfl) (fun _ _ _ h => h) (Or.inl ⟨by rfl, ?_⟩) hHeld ?_
                rotate_left
                · intro wq hSw
                  go_simp
                  all_goals with_reducible rfl
                try simp only [Act.put, List.getElem_toArray, List.getElem_cons_succ, List.getElem_cons_zero, List.setIfInBounds_toArray, List.set_cons_zero, List.set_cons_succ]
                refine wpAnyH_take (i := 1) (v := ?_) rfl (by kernel_rfl) (by kernel_rfl) (by kernel_rfl) (fun _ _ _ h => h) (Or.inl ⟨by rfl, ?_⟩) hHeld ?_
                rotate_left
                · intro wq hSw
                  go_simp
                  all_goals with_reducible rfl
                try simp only [Act.put, List.getElem_toArray, List.getElem_cons_succ, List.getElem_cons_zero, List.setIfInBounds_toArray, List.set_cons_zero, List.set_cons_succ]
                refine wpAnyH_take (i := 2) (v := ?_) rfl (by kernel_rfl) (by kernel_rfl) (by kernel_rfl) (fun _ _ _ h => h) (Or.inl ⟨by rfl, ?_⟩) hHeld ?_
                rotate_left
                · intro wq hSw
                  have q0 := hSw.1
                  go_simp
                  all_goals with_reducible rfl
                try simp only [Act.put, List.getElem_toArray, List.getElem_cons_succ, List.getElem_cons_zero, List.setIfInBounds_toArray, List.set_cons_zero, List.set_cons_succ]
                refine wpAnyH_take (i := 4) (v := ?_) rfl (by kernel_rfl) (by kernel_rfl) (by kernel_rfl) (fun _ _ _ h => h) (Or.inl ⟨by rfl, ?_⟩) hHeld ?_
                rotate_left
                · intro wq hSw
                  go_simp
                  all_goals with_reducible rfl
                try simp only [Act.put, List.getElem_toArray, List.getElem_cons_succ, List.getElem_cons_zero, List.setIfInBounds_toArray, List.set_cons_zero, List.set_cons_succ]
                refine wpAnyH_take (i := 5) (v := ?_) rfl (by kernel_rfl) (by kernel_rfl) (by kernel_rfl) (fun _ _ _ h => h) (Or.inl ⟨by rfl, ?_⟩) hHeld ?_
                rotate_left
                · intro wq hSw
                  go_simp
                  all_goals with_reducible rfl
                try simp only [Act.put, List.getElem_toArray, List.getElem_cons_succ, List.getElem_cons_zero, List.setIfInBounds_toArray, List.set_cons_zero, List.set_cons_succ]
                refine wpAnyH_take (i := 6) (v := ?_) rfl (by kernel_rfl) (by kernel_rfl) (by kernel_rfl) (fun _ _ _ h => h) (Or.inl ⟨by rfl, ?_⟩) hHeld ?_
                rotate_left
                · intro wq hSw
                  have q0 := hSw.1
                  go_simp
                  all_goals with_reducible rfl
                try simp only [Act.put, List.getElem_toArray, List.getElem_cons_succ, List.getElem_cons_zero, List.setIfInBounds_toArray, List.set_cons_zero, List.set_cons_succ]
                refine wpAnyH_ready (rs := [3]) (by kernel_rfl) (by simp) ?_
                refine AllReadyH.cons rfl (fun K hK => ?_) AllReadyH.nil
                go_simp
                refine (both_again_l (T1.out.later ((Keep.refl w1).drew)) name (by have := HNM.out; omega) HNM.out.2.1).mono ?_
                rintro r w5 ⟨rfl, b5, t5⟩
                have S5 : Hid (w5.cell? ⟨o, 1, none⟩ = some (.int .i64 name) ∧ w5.cell? ⟨o, 2, none⟩ = some (.int .u64 (num : Int))) := Lib.hid ⟨t5.cell (show w1.drew.cell? _ = _ from y1) (fun e => by have := HBW.out.1 o e; omega), t5.cell (show w1.drew.cell? _ = _ from y2) (fun e => by have := HBW.out.1 o e; omega)⟩
                have T5 := Lib.hid b5
                clear b5 t5
                refine hK.out _ _ S5.out (fun hHeld => ?_)
                clear hK K
                try simp only [Act.put, List.getElem_toArray, List.getElem_cons_succ, List.getElem_cons_zero, List.setIfInBounds_toArray, List.set_cons_zero, List.set_cons_succ]
                refine wpAnyH_ready (rs := [7]) (by kernel_rfl) (by simp) ?_
                refine AllReadyH.cons rfl (fun K hK => ?_) AllReadyH.nil
                go_simp
                refine (both_again_d T5.out name).mono ?_
                rintro r w6 ⟨rfl, b6, t6⟩
                have S6 : Hid (w6.cell? ⟨o, 1, none⟩ = some (.int .i64 name) ∧ w6.cell? ⟨o, 2, none⟩ = some (.int .u64 (num : Int))) := Lib.hid ⟨t6.cell S5.out.1 (fun e => by have := HBW.out.2 o e; omega), t6.cell S5.out.2 (fun e => by have := HBW.out.2 o e; omega)⟩
                have T6 := Lib.hid b6
                clear b6 t6
                refine hK.out _ _ S6.out (fun hHeld => ?_)
                clear hK K
                try simp only [Act.put, List.getElem_toArray, List.getElem_cons_succ, List.getElem_cons_zero, List.setIfInBounds_toArray, List.set_cons_zero, List.set_cons_succ]
                refine wpAnyH_take (i := 8) (v := ?_) rfl (by kernel_rfl) (by kernel_rfl) (by kernel_rfl) (fun _ _ _ h => h) (Or.inl ⟨by rfl, ?_⟩) hHeld ?_
                rotate_left
                · intro wq hSw
                  go_simp
                  all_goals with_reducible rfl
                try simp only [Act.put, List.getElem_toArray, List.getElem_cons_succ, List.getElem_cons_zero, List.setIfInBounds_toArray, List.set_cons_zero, List.set_cons_succ]
                refine wpAnyH_take (i := 9) (v := ?_) rfl (by kernel_rfl) (by kernel_rfl) (by kernel_rfl) (fun _ _ _ h => h) (Or.inl ⟨by rfl, ?_⟩) hHeld ?_
                rotate_left
                · intro wq hSw
                  go_simp
                  all_goals with_reducible rfl
                try simp only [Act.put, List.getElem_toArray, List.getElem_cons_succ, List.getElem_cons_zero, List.setIfInBounds_toArray, List.set_cons_zero, List.set_cons_succ]
                refine wpAnyH_done (by kernel_rfl) ?_ _
                refine NoPanic.normal ?_
                clear hHeld
                go_wp2_with fail
                go_meet
                case rel => exact ⟨_, clk, n, c, A, _, rfl, rfl, T6.out, by have := HI2.out; omega⟩
              · have e2 : (what == 2) = false := beq_eq_false_iff_ne.2 q2
                have f2 : decide (what = 2) = false := decide_eq_false q2
                clear q2
                by_cases q3 : what = 3
                · have e3 : (what == 3) = true := beq_iff_eq.2 q3
                  have f3 : decide (what = 3) = true := decide_eq_true q3
                  clear q3
                  go_wp2_with fail
                  refine (both_tick_l T1.out num HNM.out.1).mono ?_
                  rintro r w5 ⟨Ax, m, cx, rfl, o5, b5, t5⟩
                  have z5 : w5.cell? ⟨o, 2, none⟩ = some (.int .u64 (num : Int)) := t5.cell y2 (fun e => by have := HBW.out.1 o e; omega)
                  have T5 := Lib.hid b5
                  have O5 := Lib.hid o5
                  have HB5 : Hid (∀ b, FpD v1.heap.size A n c b → b < w1.heap.size) := Lib.hid T1.out.below.2
                  clear b5 o5 t5
                  go_wp2_with fail
                  refine (both_tick_d T5.out num HNM.out.1).mono ?_
                  rintro r w6 ⟨Ay, my, cy, rfl, o6, b6, t6⟩
                  have T6 := Lib.hid b6
                  have O6 := Lib.hid o6
                  have O56 := Lib.hid (O5.out.turned t6 fun b hb e => by have := (O5.out.low b hb).1; have := HB5.out b e; omega)
                  have hxl := O56.out.length
                  have hyl := O6.out.length
                  have hmy : m = my := by rw [← hxl, ← hyl]
                  have hm9 : m ≤ 1000000 := by
                    rw [← hxl]
                    unfold tickZ
                    split
                    · simp
                    · unfold namesZ
                      rw [List.length_map, (dueL_perm T1.out.a.rising).length_eq]
                      exact Nat.le_trans (List.length_filter_le _ _) (by have := HLL.out; have := HI2.out; omega)
                  have CS := Lib.hid (dsame_any (c := cx) (c' := cy) O56.out.zs O6.out.zs hm9)
                  rw [show decide (tickZ clk l num = tickZ clk l num) = true from decide_eq_true rfl] at CS
                  clear b6 o6 t6 hxl hyl hmy hm9
                  go_wp2_with fail
                  refine CS.out.mono ?_
                  rintro r w7 ⟨rfl, hq7⟩
                  have k7 : Keep w6 w7 := by obtain ⟨q7, rfl⟩ := hq7; exact (Keep.refl w6).drewN q7
                  have T7 := Lib.hid (T6.out.later k7)
                  clear k7
                  clear hq7
                  go_wp2_with fail
                  go_meet
                  case rel => exact ⟨_, _, n, c, A, _, rfl, rfl, T7.out, by have := HI2.out; omega⟩
                · have e3 : (what == 3) = false := beq_eq_false_iff_ne.2 q3
                  have f3 : decide (what = 3) = false := decide_eq_false q3
                  clear q3
                  go_wp2_with fail
                  go_meet
                  case rel => exact ⟨0, clk, n, c, A, l, rfl, rfl, T1.out, by have := HI2.out; omega⟩
        case rest =>
          obtain ⟨E, clk2, n2, c2, A2, l2, rfl, rfl, hb2, hn2⟩ := hcut
          have T8 := Lib.hid hb2
          have HN2 := Lib.hid hn2
          have HBB := Lib.hid (And.intro hb2.a.few hb2.b.als.length)
          obtain ⟨v, hv⟩ : ∃ v, nextL l2 = v := ⟨_, rfl⟩
          obtain ⟨z, hz⟩ : ∃ z : Bool, decide (l2 ≠ []) = z := ⟨_, rfl⟩
          have CN := Lib.hid (tnext_any hb2.a)
          have CM : Hid (∀ w, BothT W w g1 mb1 clk2 l2 v1.heap.size v1.heap.size clk2 A2 n2 c2 l2 → _) := Lib.hid fun w h => dnext_any (w := w) h.b
          rw [hv, hz] at CN
          simp only [hv, hz] at CM
          have r1 : ((v : Int) != (v : Int)) = false := by simp
          have r2 : (E != E) = false := by simp
          have r3 : (z != z) = false := by simp
          have r4 : ((clk2 : Int) != (clk2 : Int)) = false := by simp
          have r5 : ((n2 : Int) != (n2 : Int)) = false := by simp
          clear hb2 hn2 hv hz T1 HBW y0 y1 y2
          go_wp2_with fail
          refine CN.out.mono ?_
          rintro r w8 ⟨rfl, k8⟩
          have T9 := Lib.hid (T8.out.later k8)
          clear k8
          go_wp2_with fail
          refine (CM.out _ T9.out).mono ?_
          rintro r w9 ⟨rfl, hq9⟩
          have k9 : Keep w8 w9 := by obtain ⟨q9, rfl⟩ := hq9; exact (Keep.refl w8).drewN q9
          have Ta := Lib.hid (T9.out.later k9)
          clear k9
          clear hq9
          have ca0 := Ta.out.b.c0
          have ca1 := Ta.out.b.c1
          go_upto_region 24 with fail
          refine wp_region_noPanic ?_
          refine wp_region_held_drew (S := fun wz => Keep w9 wz ∧ wz.cell? ⟨v1.heap.size, 0, none⟩ = some (.int .u64 (clk2 : Int)) ∧ wz.cell? ⟨v1.heap.size, 1, none⟩ = some (.slice A2 n2 c2)) (by kernel_rfl) (And.intro (Keep.refl w9).drew (And.intro ca0 ca1)) (fun hHeld => ?_)
          refine wpAnyH_take (i := 0) (v := ?_) rfl (by kernel_rfl) (by kernel_rfl) (by kernel_rfl) (fun _ _ _ h => h) (Or.inl ⟨by rfl, ?_⟩) hHeld ?_
          rotate_left
          · intro wq hSw
            go_simp
            all_goals with_reducible rfl
          try simp only [Act.put, List.getElem_toArray, List.getElem_cons_succ, List.getElem_cons_zero, List.setIfInBounds_toArray, List.set_cons_zero, List.set_cons_succ]
          refine wpAnyH_take (i := 1) (v := ?_) rfl (by kernel_rfl) (by kernel_rfl) (by kernel_rfl) (fun _ _ _ h => h) (Or.inl ⟨by rfl, ?_⟩) hHeld ?_
          rotate_left
          · intro wq hSw
            go_simp
            all_goals with_reducible rfl
          try simp only [Act.put, List.getElem_toArray, List.getElem_cons_succ, List.getElem_cons_zero, List.setIfInBounds_toArray, List.set_cons_zero, List.set_cons_succ]
          refine wpAnyH_take (i := 2) (v := ?_) rfl (by kernel_rfl) (by kernel_rfl) (by kernel_rfl) (fun _ _ _ h => h) (Or.inl ⟨by rfl, ?_⟩) hHeld ?_
          rotate_left
          · intro wq hSw
            go_simp
            all_goals with_reducible rfl
          try simp only [Act.put, List.getElem_toArray, List.getElem_cons_succ, List.getElem_cons_zero, List.setIfInBounds_toArray, List.set_cons_zero, List.set_cons_succ]
          refine wpAnyH_take (i := 3) (v := ?_) rfl (by kernel_rfl) (by kernel_rfl) (by kernel_rfl) (fun _ _ _ h => h) (Or.inl ⟨by rfl, ?_⟩) hHeld ?_
          rotate_left
          · intro wq hSw
            go_simp
            all_goals with_reducible rfl
          try simp only [Act.put, List.getElem_toArray, List.getElem_cons_succ, List.getElem_cons_zero, List.setIfInBounds_toArray, List.set_cons_zero, List.set_cons_succ]
          refine wpAnyH_take (i := 4) (v := ?_) rfl (by kernel_rfl) (by kernel_rfl) (by kernel_rfl) (fun _ _ _ h => h) (Or.inl ⟨by rfl, ?_⟩) hHeld ?_
          rotate_left
          · intro wq hSw
            go_simp
            all_goals with_reducible rfl
          try simp only [Act.put, List.getElem_toArray, List.getElem_cons_succ, List.getElem_cons_zero, List.setIfInBounds_toArray, List.set_cons_zero, List.set_cons_succ]
          refine wpAnyH_take (i := 5) (v := ?_) rfl (by kernel_rfl) (by kernel_rfl) (by kernel_rfl) (fun _ _ _ h => h) (Or.inl ⟨by rfl, ?_⟩) hHeld ?_
          rotate_left
          · intro wq hSw
            go_simp
            all_goals with_reducible rfl
          try simp only [Act.put, List.getElem_toArray, List.getElem_cons_succ, List.getElem_cons_zero, List.setIfInBounds_toArray, List.set_cons_zero, List.set_cons_succ]
          refine wpAnyH_take (i := 6) (v := ?_) rfl (by kernel_rfl) (by kernel_rfl) (by kernel_rfl) (fun _ _ _ h => h) (Or.inl ⟨by rfl, ?_⟩) hHeld ?_
          rotate_left
          · intro wq hSw
            go_simp
            all_goals with_reducible rfl
          try simp only [Act.put, List.getElem_toArray, List.getElem_cons_succ, List.getElem_cons_zero, List.setIfInBounds_toArray, List.set_cons_zero, List.set_cons_succ]
          refine wpAnyH_take (i := 7) (v := ?_) rfl (by kernel_rfl) (by kernel_rfl) (by kernel_rfl) (fun _ _ _ h => h) (Or.inl ⟨by rfl, ?_⟩) hHeld ?_
          rotate_left
          · intro wq hSw
            go_simp
            all_goals with_reducible rfl
          try simp only [Act.put, List.getElem_toArray, List.getElem_cons_succ, List.getElem_cons_zero, List.setIfInBounds_toArray, List.set_cons_zero, List.set_cons_succ]
          refine wpAnyH_take (i := 8) (v := ?_) rfl (by kernel_rfl) (by kernel_rfl) (by kernel_rfl) (fun _ _ _ h => h) (Or.inl ⟨by rfl, ?_⟩) hHeld ?_
          rotate_left
          · intro wq hSw
            go_simp
            all_goals with_reducible rfl
          try simp only [Act.put, List.getElem_toArray, List.getElem_cons_succ, List.getElem_cons_zero, List.setIfInBounds_toArray, List.set_cons_zero, List.set_cons_succ]
          refine wpAnyH_take (i := 9) (v := ?_) rfl (by kernel_rfl) (by kernel_rfl) (by kernel_rfl) (fun _ _ _ h => h) (Or.inl ⟨by rfl, ?_⟩) hHeld ?_
          rotate_left
          · intro wq hSw
            go_simp
            all_goals with_reducible rfl
          try simp only [Act.put, List.getElem_toArray, List.getElem_cons_succ, List.getElem_cons_zero, List.setIfInBounds_toArray, List.set_cons_zero, List.set_cons_succ]
          refine wpAnyH_take (i := 10) (v := ?_) rfl (by kernel_rfl) (by kernel_rfl) (by kernel_rfl) (fun _ _ _ h => h) (Or.inl ⟨by rfl, ?_⟩) hHeld ?_
          rotate_left
          · intro wq hSw
            go_simp
            all_goals with_reducible rfl
          try simp only [Act.put, List.getElem_toArray, List.getElem_cons_succ, List.getElem_cons_zero, List.setIfInBounds_toArray, List.set_cons_zero, List.set_cons_succ]
          refine wpAnyH_take (i := 11) (v := ?_) rfl (by kernel_rfl) (by kernel_rfl) (by kernel_rfl) (fun _ _ _ h => h) (Or.inl ⟨by rfl, ?_⟩) hHeld ?_
          rotate_left
          · intro wq hSw
            go_simp
            all_goals with_reducible rfl
          try simp only [Act.put, List.getElem_toArray, List.getElem_cons_succ, List.getElem_cons_zero, List.setIfInBounds_toArray, List.set_cons_zero, List.set_cons_succ]
          refine wpAnyH_take (i := 12) (v := ?_) rfl (by kernel_rfl) (by kernel_rfl) (by kernel_rfl) (fun _ _ _ h => h) (Or.inl ⟨by rfl, ?_⟩) hHeld ?_
          rotate_left
          · intro wq hSw
            go_simp
            all_goals with_reducible rfl
          try simp only [Act.put, List.getElem_toArray, List.getElem_cons_succ, List.getElem_cons_zero, List.setIfInBounds_toArray, List.set_cons_zero, List.set_cons_succ]
          refine wpAnyH_take (i := 13) (v := ?_) rfl (by kernel_rfl) (by kernel_rfl) (by kernel_rfl) (fun _ _ _ h => h) (Or.inl ⟨by rfl, ?_⟩) hHeld ?_
          rotate_left
          · intro wq hSw
            go_simp
            all_goals with_reducible rfl
          try simp only [Act.put, List.getElem_toArray, List.getElem_cons_succ, List.getElem_cons_zero, List.setIfInBounds_toArray, List.set_cons_zero, List.set_cons_succ]
          refine wpAnyH_take (i := 14) (v := ?_) rfl (by kernel_rfl) (by kernel_rfl) (by kernel_rfl) (fun _ _ _ h => h) (Or.inl ⟨by rfl, ?_⟩) hHeld ?_
          rotate_left
          · intro wq hSw
            go_simp
            all_goals with_reducible rfl
          try simp only [Act.put, List.getElem_toArray, List.getElem_cons_succ, List.getElem_cons_zero, List.setIfInBounds_toArray, List.set_cons_zero, List.set_cons_succ]
          refine wpAnyH_take (i := 16) (v := ?_) rfl (by kernel_rfl) (by kernel_rfl) (by kernel_rfl) (fun _ _ _ h => h) (Or.inl ⟨by rfl, ?_⟩) hHeld ?_
          rotate_left
          · intro wq hSw
            go_simp
            all_goals with_reducible rfl
          try simp only [Act.put, List.getElem_toArray, List.getElem_cons_succ, List.getElem_cons_zero, List.setIfInBounds_toArray, List.set_cons_zero, List.set_cons_succ]
          refine wpAnyH_take (i := 17) (v := ?_) rfl (by kernel_rfl) (by kernel_rfl) (by kernel_rfl) (fun _ _ _ h => h) (Or.inl ⟨by rfl, ?_⟩) hHeld ?_
          rotate_left
          · intro wq hSw
            go_simp
            all_goals with_reducible rfl
          try simp only [Act.put, List.getElem_toArray, List.getElem_cons_succ, List.getElem_cons_zero, List.setIfInBounds_toArray, List.set_cons_zero, List.set_cons_succ]
          refine wpAnyH_take (i := 18) (v := ?_) rfl (by kernel_rfl) (by kernel_rfl) (by kernel_rfl) (fun _ _ _ h => h) (Or.inl ⟨by rfl, ?_⟩) hHeld ?_
          rotate_left
          · intro wq hSw
            go_simp
            all_goals with_reducible rfl
          try simp only [Act.put, List.getElem_toArray, List.getElem_cons_succ, List.getElem_cons_zero, List.setIfInBounds_toArray, List.set_cons_zero, List.set_cons_succ]
          refine wpAnyH_take (i := 19) (v := ?_) rfl (by kernel_rfl) (by kernel_rfl) (by kernel_rfl) (fun _ _ _ h => h) (Or.inl ⟨by rfl, ?_⟩) hHeld ?_
          rotate_left
          · intro wq hSw
            have q0 := hSw.2.1
            go_simp
            all_goals with_reducible rfl
          try simp only [Act.put, List.getElem_toArray, List.getElem_cons_succ, List.getElem_cons_zero, List.setIfInBounds_toArray, List.set_cons_zero, List.set_cons_succ]
          refine wpAnyH_ready (rs := [15]) (by kernel_rfl) (by simp) ?_
          refine AllReadyH.cons rfl (fun K hK => ?_) AllReadyH.nil
          go_simp
          refine (tnow (Ta.out.later ((Keep.refl w9).drew)).a).mono ?_
          rintro r wb ⟨rfl, hwb⟩
          subst hwb
          have Sb : Hid (Keep w9 w9.drew ∧ w9.drew.cell? ⟨v1.heap.size, 0, none⟩ = some (.int .u64 (clk2 : Int)) ∧ w9.drew.cell? ⟨v1.heap.size, 1, none⟩ = some (.slice A2 n2 c2)) := Lib.hid ⟨(Keep.refl w9).drew, ca0, ca1⟩
          refine hK.out _ _ Sb.out (fun hHeld => ?_)
          clear hK K
          try simp only [Act.put, List.getElem_toArray, List.getElem_cons_succ, List.getElem_cons_zero, List.setIfInBounds_toArray, List.set_cons_zero, List.set_cons_succ]
          refine wpAnyH_take (i := 20) (v := ?_) rfl (by kernel_rfl) (by kernel_rfl) (by kernel_rfl) (fun _ _ _ h => h) (Or.inl ⟨by rfl, ?_⟩) hHeld ?_
          rotate_left
          · intro wq hSw
            go_simp
            all_goals with_reducible rfl
          try simp only [Act.put, List.getElem_toArray, List.getElem_cons_succ, List.getElem_cons_zero, List.setIfInBounds_toArray, List.set_cons_zero, List.set_cons_succ]
          refine wpAnyH_take (i := 21) (v := ?_) rfl (by kernel_rfl) (by kernel_rfl) (by kernel_rfl) (fun _ _ _ h => h) (Or.inl ⟨by rfl, ?_⟩) hHeld ?_
          rotate_left
          · intro wq hSw
            go_simp
            all_goals with_reducible rfl
          try simp only [Act.put, List.getElem_toArray, List.getElem_cons_succ, List.getElem_cons_zero, List.setIfInBounds_toArray, List.set_cons_zero, List.set_cons_succ]
          refine wpAnyH_take (i := 22) (v := ?_) rfl (by kernel_rfl) (by kernel_rfl) (by kernel_rfl) (fun _ _ _ h => h) (Or.inl ⟨by rfl, ?_⟩) hHeld ?_
          rotate_left
          · intro wq hSw
            go_simp
            all_goals with_reducible rfl
          try simp only [Act.put, List.getElem_toArray, List.getElem_cons_succ, List.getElem_cons_zero, List.setIfInBounds_toArray, List.set_cons_zero, List.set_cons_succ]
          refine wpAnyH_take (i := 23) (v := ?_) rfl (by kernel_rfl) (by kernel_rfl) (by kernel_rfl) (fun _ _ _ h => h) (Or.inl ⟨by rfl, ?_⟩) hHeld ?_
          rotate_left
          · intro wq hSw
            go_simp
            all_goals with_reducible rfl
          try simp only [Act.put, List.getElem_toArray, List.getElem_cons_succ, List.getElem_cons_zero, List.setIfInBounds_toArray, List.set_cons_zero, List.set_cons_succ]
          refine wpAnyH_take (i := 26) (v := ?_) rfl (by kernel_rfl) (by kernel_rfl) (by kernel_rfl) (fun _ _ _ h => h) (Or.inl ⟨by rfl, ?_⟩) hHeld ?_
          rotate_left
          · intro wq hSw
            go_simp
            all_goals with_reducible rfl
          try simp only [Act.put, List.getElem_toArray, List.getElem_cons_succ, List.getElem_cons_zero, List.setIfInBounds_toArray, List.set_cons_zero, List.set_cons_succ]
          refine wpAnyH_take (i := 27) (v := ?_) rfl (by kernel_rfl) (by kernel_rfl) (by kernel_rfl) (fun _ _ _ h => h) (Or.inl ⟨by rfl, ?_⟩) hHeld ?_
          rotate_left
          · intro wq hSw
            go_simp
            all_goals with_reducible rfl
          try simp only [Act.put, List.getElem_toArray, List.getElem_cons_succ, List.getElem_cons_zero, List.setIfInBounds_toArray, List.set_cons_zero, List.set_cons_succ]
          refine wpAnyH_take (i := 28) (v := ?_) rfl (by kernel_rfl) (by kernel_rfl) (by kernel_rfl) (fun _ _ _ h => h) (Or.inl ⟨by rfl, ?_⟩) hHeld ?_
          rotate_left
          · intro wq hSw
            go_simp
            all_goals with_reducible rfl
          try simp only [Act.put, List.getElem_toArray, List.getElem_cons_succ, List.getElem_cons_zero, List.setIfInBounds_toArray, List.set_cons_zero, List.set_cons_succ]
          refine wpAnyH_take (i := 29) (v := ?_) rfl (by kernel_rfl) (by kernel_rfl) (by kernel_rfl) (fun _ _ _ h => h) (Or.inl ⟨by rfl, ?_⟩) hHeld ?_
          rotate_left
          · intro wq hSw
            have q0 := hSw.2.2
            go_simp
            all_goals with_reducible rfl
          try simp only [Act.put, List.getElem_toArray, List.getElem_cons_succ, List.getElem_cons_zero, List.setIfInBounds_toArray, List.set_cons_zero, List.set_cons_succ]
          refine wpAnyH_take (i := 30) (v := ?_) rfl (by kernel_rfl) (by kernel_rfl) (by kernel_rfl) (fun _ _ _ h => h) (Or.inl ⟨by rfl, ?_⟩) hHeld ?_
          rotate_left
          · intro wq hSw
            go_simp
            all_goals with_reducible rfl
          try simp only [Act.put, List.getElem_toArray, List.getElem_cons_succ, List.getElem_cons_zero, List.setIfInBounds_toArray, List.set_cons_zero, List.set_cons_succ]
          refine wpAnyH_ready (rs := [24]) (by kernel_rfl) (by simp) ?_
          refine AllReadyH.cons rfl (fun K hK => ?_) AllReadyH.nil
          go_simp
          refine (tnames_any (Ta.out.later ((Keep.refl w9).drew)).a).mono ?_
          rintro r wc ⟨Ac, nc, cc, rfl, oc, kc⟩
          obtain rfl : n2 = nc := by have := oc.length; have := HBB.out.2; simp [namesZ] at *; omega
          have Tc := Lib.hid ((Ta.out.later ((Keep.refl w9).drew)).later kc)
          have Sc : Hid (Keep w9 wc ∧ wc.cell? ⟨v1.heap.size, 0, none⟩ = some (.int .u64 (clk2 : Int)) ∧ wc.cell? ⟨v1.heap.size, 1, none⟩ = some (.slice A2 n2 c2)) := Lib.hid ⟨(Keep.refl w9).drew.trans kc, Tc.out.b.c0, Tc.out.b.c1⟩
          clear oc kc
          refine hK.out _ _ Sc.out (fun hHeld => ?_)
          clear hK K
          try simp only [Act.put, List.getElem_toArray, List.getElem_cons_succ, List.getElem_cons_zero, List.setIfInBounds_toArray, List.set_cons_zero, List.set_cons_succ]
          refine wpAnyH_take (i := 25) (v := ?_) rfl (by kernel_rfl) (by kernel_rfl) (by kernel_rfl) (fun _ _ _ h => h) (Or.inl ⟨by rfl, ?_⟩) hHeld ?_
          rotate_left
          · intro wq hSw
            go_simp
            all_goals with_reducible rfl
          try simp only [Act.put, List.getElem_toArray, List.getElem_cons_succ, List.getElem_cons_zero, List.setIfInBounds_toArray, List.set_cons_zero, List.set_cons_succ]
          refine wpAnyH_take (i := 31) (v := ?_) rfl (by kernel_rfl) (by kernel_rfl) (by kernel_rfl) (fun _ _ _ h => h) (Or.inl ⟨by rfl, ?_⟩) hHeld ?_
          rotate_left
          · intro wq hSw
            go_simp
            all_goals with_reducible rfl
          try simp only [Act.put, List.getElem_toArray, List.getElem_cons_succ, List.getElem_cons_zero, List.setIfInBounds_toArray, List.set_cons_zero, List.set_cons_succ]
          refine wpAnyH_take (i := 32) (v := ?_) rfl (by kernel_rfl) (by kernel_rfl) (by kernel_rfl) (fun _ _ _ h => h) (Or.inl ⟨by rfl, ?_⟩) hHeld ?_
          rotate_left
          · intro wq hSw
            go_simp
            all_goals with_reducible rfl
          try simp only [Act.put, List.getElem_toArray, List.getElem_cons_succ, List.getElem_cons_zero, List.setIfInBounds_toArray, List.set_cons_zero, List.set_cons_succ]
          refine wpAnyH_done (by kernel_rfl) ?_ _
          refine NoPanic.normal ?_
          clear hHeld
          go_wp2_with fail
          refine (tnames_any Tc.out.a).mono ?_
          rintro r wd ⟨Ad, nd, cd, rfl, od, kd⟩
          obtain rfl : n2 = nd := by have := od.length; have := HBB.out.2; simp [namesZ] at *; omega
          have Td := Lib.hid (Tc.out.later kd)
          have OD := Lib.hid od
          have cd1 := Td.out.b.c1
          clear od kd
          go_wp2_with fail
          go_loopw [133] (fun jv wr => ∃ j : Nat, jv = .int .i64 j ∧ j ≤ n2 ∧ wr = wd) (fun jv _ => n2 - (intOf jv).toNat)
          case atStart => exact ⟨0, rfl, Nat.zero_le _, rfl⟩
          case round =>
            obtain ⟨j, rfl, hj, hwr⟩ := hrel
            obtain rfl : wd = wr := hwr.symm
            have j0 : (0 : Int) ≤ (j : Int) := Int.natCast_nonneg _
            have rj : IntKind.i64.wrap ((j : Int) + 1) = (j : Int) + 1 := IntWalk.i64_in _ (by have := HN2.out; have := HI2.out; omega)
            by_cases hjl : j < n2
            · obtain ⟨gz, z1, hAd, _, _, hz, hcz⟩ := OD.out.at_ hjl
              subst hAd
              rw [Nat.zero_add] at hcz
              obtain ⟨ba, oa, a, hA2, hla, a0, a1, a2, _⟩ := Td.out.b.one hjl
              subst hA2
              have hza : z1 = (a.name : Int) := by
                unfold namesZ at hz
                rw [List.getElem?_map, hla] at hz
                simpa using hz.symm
              subst hza
              have j1 : (j : Int) < (n2 : Int) := by omega
              have rr : ((a.name : Int) != (a.name : Int)) = false := by simp
              have HJ := Lib.hid hjl
              clear hz hla hjl hj
              go_wp2_with fail
              go_roundw
              case rel => exact ⟨j + 1, by go_num, HJ.out, by first | trivial | rfl⟩
              case measure => simp [intOf]; have := HJ.out; omega
            · have j1 : ¬ (j : Int) < (n2 : Int) := by omega
              have j2 : decide ((j : Int) < (n2 : Int)) = false := decide_eq_false j1
              clear hjl hj
              go_wp2_with fail
              go_roundw
              case rel => exact ⟨i + 1, clk2, n2, c2, A2, l2, by go_num, HLT.out, Td.out, by have := HI2.out; have := HN2.out; omega⟩
              case measure => simp [intOf]; have := HLT.out; omega
    · have gl : ¬ (i : Int) < (n0 : Int) := by omega
      clear hlt hi
      go_wp2_with fail
      go_ret
      exact ⟨rfl, HB.out.k⟩
end Go.Proofs.Ytjjoieahodfikaa
