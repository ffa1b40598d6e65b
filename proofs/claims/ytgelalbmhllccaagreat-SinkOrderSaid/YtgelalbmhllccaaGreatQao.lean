/- The landed sink: its iterator. -/
import Derived.Test.YtgelalbmhllccaaGreatQan
import Derived.Test.YtgelalbmhllccaaGreatQab
import Derived.Test.YtgelalbmhllccaaGreatQaf
import Derived.Test.YtgelalbmhllccaaGreatQaj
import Derived.Test.YtgelalbmhllccaaGreatQaa
namespace Go.Proofs.YtgelalbmhllccaaGreat
open Go.RowKit Lin
set_option linter.unusedVariables false
set_option linter.unusedSimpArgs false
attribute [local go_sem] Oper.semAt_some
theorem yield_cases {e : Ending} {X Y : Prop} (h : (e = .returned (.bool true) ∧ X) ∨ (e = .returned (.bool false) ∧ Y)) : ∃ bb : Bool, e = .returned (.bool bb) ∧ (bb = true → X) ∧ (bb = false → Y) := by
  rcases h with ⟨rfl, h⟩ | ⟨rfl, h⟩
  · exact ⟨true, rfl, fun _ => h, fun e => (by cases e)⟩
  · exact ⟨false, rfl, fun e => (by cases e), fun _ => h⟩
section
variable {F : Nat → Prop} {p q g s k b of : Nat} {L : Nat → List (List Nat)} {kn : Bool}
set_option maxRecDepth 100000 in
set_option maxHeartbeats 4000000 in
theorem ready_any (m B Bk Bb got : Nat) (hm : 1 ≤ m) (J : Nat → World → Prop) (hB : ∀ n W, J n W → SnkB W F p q g s k b of L kn Bk Bb n) (hJ : ∀ n W W', J n W → Keep W W' → J n W') (hsz : ∀ n W, J n W → B ≤ W.heap.size) :
    HandsP Fence.wide m Tryz.prog 70 #[] #[.pointer (some ⟨Bk, 0, none⟩), .pointer (some ⟨Bb, 0, none⟩)] (fun x : ChV => #[.slice x.A x.r x.c, .int .i64 x.e]) B
      (fun W => J got W)
      (fun W => ∃ n, J n W ∧ ¬ rdyN g k b L n)
      (fun x W => J x.n W ∧ rdyN g k b L x.n ∧ x.e = takeE g s (symN g (L x.n)) ∧ x.xs = takeV g s (symN g (L x.n)) ∧ Own W B 5 x.A x.r x.c x.xs)
      (fun x W => J (x.n + 1) W) := by
  intro l X Ix W hX hY hs hXW
  refine callsIn_of_wp Tryz.func70 rfl trivial ?_ rfl
  simp only [Tryz.ntmps70, List.size_toArray, List.length_cons, List.length_nil, Nat.reduceAdd, Nat.reduceSub, Array.replicate_succ, Array.replicate_zero, List.push_toArray, List.append_toArray, List.nil_append, List.cons_append]
  have ck := (hB _ _ hs).bk.cell
  have c2 := (hB _ _ hs).sk.c2
  gi_wp2
  gi_loopw [4] (fun u wr => ∃ n : Nat, u = .int .u64 (n : Int) ∧ J n wr ∧ X wr) (fun u _ => topN + 1 - (intOf u).toNat)
  case atStart => exact ⟨got, rfl, hs, hXW⟩
  case round =>
    clear ck c2
    obtain ⟨n, rfl, hj, hXw⟩ := hrel
    have HB := Lib.hid (hB _ _ hj)
    have ck := HB.out.bk.cell
    have cb := HB.out.bb.cell
    have c0 := HB.out.sk.c0
    have c1 := HB.out.sk.c1
    have htop : n < 18446744073709551616 := by have := HB.out.sk.top; unfold topN at this; omega
    by_cases hlt : n < topN
    · have d1 : (n : Int) < 1099511627776 := by unfold topN at hlt; omega
      have d2 : decide ((n : Int) < 1099511627776) = true := decide_eq_true d1
      have HSV := Lib.hid (rl_solve_all HB.out.y n htop)
      by_cases hrd : rdyN g k b L n
      · have e1 : ySolveE g k b L n = 0 := by rw [ySolveE, if_pos hrd.1, if_pos hrd.2]
        have e2 : ySolveV g k b L n = symN g (L n) := by rw [ySolveV, if_pos (show winIn b k n = true ∧ (L n).length = g from hrd)]; rfl
        have hsv := HSV.out
        rw [e1, e2] at hsv
        have HRD := Lib.hid hrd
        clear hrd HSV e1 e2
        gi_wp2_with (refine ⟨trivial, ?_⟩; gi_at_call 71; refine (callsIn_wide.2 hsv).mono ?_; rintro e w5 ⟨A5, r5, cc5, rs5, rfl, o5, ho5, hx5, k5⟩)
        have kd := k5.drew
        have hjd := hJ _ _ _ hj kd
        have HBd := Lib.hid (hB _ _ hjd)
        have HTK := Lib.hid (take_solved (L := L) HB.out.sk.may (fun x hx => ((HB.out.y.bas n).ok x hx).1) o5 ho5 hx5 w5.drew (Keep.drew (Keep.refl w5)))
        have xk := HBd.out.bk.cell
        have x0 := HBd.out.sk.c0
        have x1 := HBd.out.sk.c1
        clear ck cb c0 c1 o5 ho5 hx5 hsv
        gi_region_with (first
          | (refine ⟨trivial, ?_⟩; gi_at_call 72; refine (callsIn_wide.2 HTK.out).mono ?_; rintro e w6 ⟨A6, n6, c6, rfl, o6, k6⟩; obtain ⟨fn, tmps, assign, body, hy, hR⟩ := hY ⟨n, A6, n6, c6, takeV g s (symN g (L n)), takeE g s (symN g (L n))⟩ w6 ⟨hJ _ _ _ hjd k6, HRD.out, rfl, rfl, o6.lower (hsz _ _ hjd)⟩ (hX _ _ hXw (KeepsFrom.of_keep (kd.trans k6))))
          | (refine hR.mono ?_; rintro e W3 hc; obtain ⟨bb, rfl, hbt, hbf⟩ := yield_cases hc))
        all_goals clear hy hR hY hX HTK HBd xk x0 x1 hjd hXw hj
        all_goals cases bb with
          | true =>
            obtain ⟨hj3, hx3⟩ := hbt rfl
            clear hbt hbf
            obtain ⟨gp, hgp⟩ : ∃ v, n + 1 = v := ⟨_, rfl⟩
            rw [hgp] at hj3
            have g1 : (n : Int) + 1 = (gp : Int) := by omega
            have g2 : IntKind.u64.wrap (gp : Int) = (gp : Int) := IntWalk.u64_in _ (by unfold topN at hlt; omega)
            have g3 : IntKind.u64.wrap ((n : Int) + 1) = (gp : Int) := by rw [g1]; exact g2
            have HG := Lib.hid hgp
            have HJ3 := Lib.hid (And.intro hj3 hx3)
            clear hgp hj3 hx3
            try simp only [Act.put, List.getElem_toArray, List.getElem_cons_succ, List.getElem_cons_zero, List.setIfInBounds_toArray, List.set_cons_zero, List.set_cons_succ, Bool.not_true, Bool.not_false]
            gi_wp2
            go_roundw
            case rel => exact ⟨gp, rfl, HJ3.out.1, HJ3.out.2⟩
            case measure => (have := HG.out; simp [intOf]; omega)
          | false =>
            have HX3 := Lib.hid (hbf rfl)
            clear hbt hbf
            try simp only [Act.put, List.getElem_toArray, List.getElem_cons_succ, List.getElem_cons_zero, List.setIfInBounds_toArray, List.set_cons_zero, List.set_cons_succ, Bool.not_true, Bool.not_false]
            gi_wp2
            refine bodyPost_ret (results_none rfl _ _ _) rfl ?_
            exact ⟨⟨_, rfl⟩, .inr HX3.out⟩
      · have e1 : ySolveE g k b L n = 24 ∨ ySolveE g k b L n = 23 := by
          rw [ySolveE]
          by_cases hw : winIn b k n = true
          · rw [if_pos hw, if_neg fun e => hrd ⟨hw, e⟩]; exact Or.inl rfl
          · rw [if_neg hw]; exact Or.inr rfl
        have hsv := HSV.out
        have HRD := Lib.hid hrd
        clear hrd HSV c0 c1 hY
        rcases e1 with e1 | e1
        all_goals rw [e1] at hsv
        all_goals clear e1
        all_goals gi_wp2_with (refine ⟨trivial, ?_⟩; gi_at_call 71; refine (callsIn_wide.2 hsv).mono ?_; rintro e w5 ⟨A5, r5, cc5, rs5, rfl, o5, ho5, hx5, k5⟩)
        all_goals have HE := Lib.hid (And.intro (hJ _ _ _ hj k5.drew) (hX _ _ hXw (KeepsFrom.of_keep k5.drew)))
        all_goals clear hJ hX hXw hj ck cb o5 ho5 hx5 hsv
        all_goals (
          refine wpIn_region_any (by kernel_rfl) ?_
          refine wpAnyIn_take (i := 0) (v := ?_) rfl rfl (by kernel_rfl) (by kernel_rfl) (by kernel_rfl) (fun _ _ _ h => h) ⟨Or.inl ⟨by rfl, ?_⟩, fun _ => rfl⟩ ?_
          rotate_left
          · intro wq
            go_simp
            all_goals with_reducible rfl
          try simp only [Act.put, List.getElem_toArray, List.getElem_cons_succ, List.getElem_cons_zero, List.setIfInBounds_toArray, List.set_cons_zero, List.set_cons_succ]
          refine wpAnyIn_take (i := 1) (v := ?_) rfl rfl (by kernel_rfl) (by kernel_rfl) (by kernel_rfl) (fun _ _ _ h => h) ⟨Or.inl ⟨by rfl, ?_⟩, fun _ => rfl⟩ ?_
          rotate_left
          · intro wq
            go_simp
            all_goals with_reducible rfl
          try simp only [Act.put, List.getElem_toArray, List.getElem_cons_succ, List.getElem_cons_zero, List.setIfInBounds_toArray, List.set_cons_zero, List.set_cons_succ]
          refine wpAnyIn_take (i := 2) (v := ?_) rfl rfl (by kernel_rfl) (by kernel_rfl) (by kernel_rfl) (fun _ _ _ h => h) ⟨Or.inl ⟨by rfl, ?_⟩, fun _ => rfl⟩ ?_
          rotate_left
          · intro wq
            go_simp
            all_goals with_reducible rfl
          try simp only [Act.put, List.getElem_toArray, List.getElem_cons_succ, List.getElem_cons_zero, List.setIfInBounds_toArray, List.set_cons_zero, List.set_cons_succ]
          refine wpAnyIn_take (i := 3) (v := undef) rfl rfl (by kernel_rfl) (by kernel_rfl) (by kernel_rfl) (fun _ _ _ h => h) ⟨Or.inr ⟨by rfl, rfl⟩, fun _ => rfl⟩ ?_
          try simp only [Act.put, List.getElem_toArray, List.getElem_cons_succ, List.getElem_cons_zero, List.setIfInBounds_toArray, List.set_cons_zero, List.set_cons_succ]
          refine wpAnyIn_take (i := 4) (v := undef) rfl rfl (by kernel_rfl) (by kernel_rfl) (by kernel_rfl) (fun _ _ _ h => h) ⟨Or.inr ⟨by rfl, rfl⟩, fun _ => rfl⟩ ?_
          try simp only [Act.put, List.getElem_toArray, List.getElem_cons_succ, List.getElem_cons_zero, List.setIfInBounds_toArray, List.set_cons_zero, List.set_cons_succ]
          refine wpAnyIn_take (i := 5) (v := undef) rfl rfl (by kernel_rfl) (by kernel_rfl) (by kernel_rfl) (fun _ _ _ h => h) ⟨Or.inr ⟨by rfl, rfl⟩, fun _ => rfl⟩ ?_
          try simp only [Act.put, List.getElem_toArray, List.getElem_cons_succ, List.getElem_cons_zero, List.setIfInBounds_toArray, List.set_cons_zero, List.set_cons_succ]
          refine wpAnyIn_take (i := 6) (v := undef) rfl rfl (by kernel_rfl) (by kernel_rfl) (by kernel_rfl) (fun _ _ _ h => h) ⟨Or.inr ⟨by rfl, rfl⟩, fun _ => rfl⟩ ?_
          try simp only [Act.put, List.getElem_toArray, List.getElem_cons_succ, List.getElem_cons_zero, List.setIfInBounds_toArray, List.set_cons_zero, List.set_cons_succ]
          refine wpAnyIn_take (i := 7) (v := undef) rfl rfl (by kernel_rfl) (by kernel_rfl) (by kernel_rfl) (fun _ _ _ h => h) ⟨Or.inr ⟨by rfl, rfl⟩, fun _ => rfl⟩ ?_
          try simp only [Act.put, List.getElem_toArray, List.getElem_cons_succ, List.getElem_cons_zero, List.setIfInBounds_toArray, List.set_cons_zero, List.set_cons_succ]
          refine wpAnyIn_take (i := 8) (v := undef) rfl rfl (by kernel_rfl) (by kernel_rfl) (by kernel_rfl) (fun _ _ _ h => h) ⟨Or.inr ⟨by rfl, rfl⟩, fun _ => rfl⟩ ?_
          try simp only [Act.put, List.getElem_toArray, List.getElem_cons_succ, List.getElem_cons_zero, List.setIfInBounds_toArray, List.set_cons_zero, List.set_cons_succ]
          refine wpAnyIn_take (i := 9) (v := undef) rfl rfl (by kernel_rfl) (by kernel_rfl) (by kernel_rfl) (fun _ _ _ h => h) ⟨Or.inr ⟨by rfl, rfl⟩, fun _ => rfl⟩ ?_
          try simp only [Act.put, List.getElem_toArray, List.getElem_cons_succ, List.getElem_cons_zero, List.setIfInBounds_toArray, List.set_cons_zero, List.set_cons_succ]
          refine wpAnyIn_take (i := 10) (v := undef) rfl rfl (by kernel_rfl) (by kernel_rfl) (by kernel_rfl) (fun _ _ _ h => h) ⟨Or.inr ⟨by rfl, rfl⟩, fun _ => rfl⟩ ?_
          try simp only [Act.put, List.getElem_toArray, List.getElem_cons_succ, List.getElem_cons_zero, List.setIfInBounds_toArray, List.set_cons_zero, List.set_cons_succ]
          refine wpAnyIn_take (i := 11) (v := undef) rfl rfl (by kernel_rfl) (by kernel_rfl) (by kernel_rfl) (fun _ _ _ h => h) ⟨Or.inr ⟨by rfl, rfl⟩, fun _ => rfl⟩ ?_
          try simp only [Act.put, List.getElem_toArray, List.getElem_cons_succ, List.getElem_cons_zero, List.setIfInBounds_toArray, List.set_cons_zero, List.set_cons_succ]
          refine wpAnyIn_take (i := 12) (v := undef) rfl rfl (by kernel_rfl) (by kernel_rfl) (by kernel_rfl) (fun _ _ _ h => h) ⟨Or.inr ⟨by rfl, rfl⟩, fun _ => rfl⟩ ?_
          try simp only [Act.put, List.getElem_toArray, List.getElem_cons_succ, List.getElem_cons_zero, List.setIfInBounds_toArray, List.set_cons_zero, List.set_cons_succ]
          refine wpAnyIn_ready (rs := [13]) (by kernel_rfl) (by simp) ?_
          refine AllReadyIn.cons rfl (fun K hK => ?_) AllReadyIn.nil
          go_simp
          refine ⟨trivial, ?_⟩
          refine hK _ _ ?_
          clear hK K
          try simp only [Act.put, List.getElem_toArray, List.getElem_cons_succ, List.getElem_cons_zero, List.setIfInBounds_toArray, List.set_cons_zero, List.set_cons_succ]
          refine wpAnyIn_take (i := 14) (v := undef) rfl rfl (by kernel_rfl) (by kernel_rfl) (by kernel_rfl) (fun _ _ _ h => h) ⟨Or.inr ⟨by rfl, rfl⟩, fun _ => rfl⟩ ?_
          try simp only [Act.put, List.getElem_toArray, List.getElem_cons_succ, List.getElem_cons_zero, List.setIfInBounds_toArray, List.set_cons_zero, List.set_cons_succ]
          refine wpAnyIn_take (i := 15) (v := undef) rfl rfl (by kernel_rfl) (by kernel_rfl) (by kernel_rfl) (fun _ _ _ h => h) ⟨Or.inr ⟨by rfl, rfl⟩, fun _ => rfl⟩ ?_
          try simp only [Act.put, List.getElem_toArray, List.getElem_cons_succ, List.getElem_cons_zero, List.setIfInBounds_toArray, List.set_cons_zero, List.set_cons_succ]
          refine wpAnyIn_ready (rs := [16]) (by kernel_rfl) (by simp) ?_
          refine AllReadyIn.cons rfl (fun K hK => ?_) AllReadyIn.nil
          go_simp
          refine ⟨fun _ h => (by cases h), ?_⟩
          refine hK _ _ ?_
          clear hK K
          try simp only [Act.put, List.getElem_toArray, List.getElem_cons_succ, List.getElem_cons_zero, List.setIfInBounds_toArray, List.set_cons_zero, List.set_cons_succ]
          refine wpAnyIn_take (i := 17) (v := undef) rfl rfl (by kernel_rfl) (by kernel_rfl) (by kernel_rfl) (fun _ _ _ h => h) ⟨Or.inr ⟨by rfl, rfl⟩, fun _ => rfl⟩ ?_
          try simp only [Act.put, List.getElem_toArray, List.getElem_cons_succ, List.getElem_cons_zero, List.setIfInBounds_toArray, List.set_cons_zero, List.set_cons_succ]
          refine wpAnyIn_take (i := 18) (v := ?_) rfl rfl (by kernel_rfl) (by kernel_rfl) (by kernel_rfl) (fun _ _ _ h => h) ⟨Or.inl ⟨by rfl, ?_⟩, fun _ => rfl⟩ ?_
          rotate_left
          · intro wq
            go_simp
            all_goals with_reducible rfl
          try simp only [Act.put, List.getElem_toArray, List.getElem_cons_succ, List.getElem_cons_zero, List.setIfInBounds_toArray, List.set_cons_zero, List.set_cons_succ]
          refine wpAnyIn_done (by kernel_rfl) ?_ _
          gi_wp2
          refine bodyPost_ret (results_none rfl _ _ _) rfl ?_
          exact ⟨⟨_, rfl⟩, .inl ⟨⟨n, HE.out.1, HRD.out⟩, HE.out.2⟩⟩)
    · have d1 : ¬ (n : Int) < 1099511627776 := by unfold topN at hlt; omega
      have d2 : decide ((n : Int) < 1099511627776) = false := decide_eq_false d1
      gi_wp2
      go_end0
      exact ⟨⟨_, rfl⟩, .inl ⟨⟨n, hj, fun e => hlt (rdy_top e)⟩, hXw⟩⟩
end
end Go.Proofs.YtgelalbmhllccaaGreat
/- The landed sink: its Release. -/
namespace Go.Proofs.YtgelalbmhllccaaGreat
open Go.RowKit Lin
set_option linter.unusedVariables false
set_option linter.unusedSimpArgs false
attribute [local go_sem] Oper.semAt_some
theorem ismade_any {w : World} {q n of : Nat} {g s : Int} {kn br : Bool} (h : SnkR w q g s n of kn br) : Calls Tryz.prog 38 #[.pointer (some ⟨q, 0, none⟩)] w fun e w' => e = .returned (.bool true) ∧ w' = w := by
  have c0 := h.c0
  have g1 : 0 < g := by have := h.may.1; omega
  have g2 : decide (0 < g) = true := decide_eq_true g1
  clear h
  go_enter Tryz.func38, Tryz.ntmps38
  go_wp2_with fail
  go_ret
  exact ⟨rfl, rfl⟩
theorem results_two {P : Program} {fn : Func} {p1 p2 : Tmp} {t1 t2 : TypeId} (h : fn.results = #[.cell p1 t1, .cell p2 t2]) (tmps : Array Value) (w : World) (g1 g2 : Nat) (v1 v2 : Value)
    (h1 : tmps.getD p1 undef = .pointer (some ⟨g1, 0, none⟩)) (h2 : tmps.getD p2 undef = .pointer (some ⟨g2, 0, none⟩)) (c1 : w.cell? ⟨g1, 0, none⟩ = some v1) (c2 : w.cell? ⟨g2, 0, none⟩ = some v2) (a1 : (isAgg t1).run P w = .ok false w) (a2 : (isAgg t2).run P w = .ok false w) :
    (results fn tmps).run P w = .ok (.tuple #[v1, v2]) w := by
  have h1' : tmps[p1]?.getD undef = .pointer (some ⟨g1, 0, none⟩) := by simpa using h1
  have h2' : tmps[p2]?.getD undef = .pointer (some ⟨g2, 0, none⟩) := by simpa using h2
  simp [results, h, h1', h2', asAddr, go_sem, c1, c2, a1, a2]
section
variable {F : Nat → Prop} {p q g s k b of : Nat} {L : Nat → List (List Nat)} {kn : Bool}
theorem rdynew_any (w : World) : Calls Tryz.prog 39 #[.pointer (some ⟨q, 0, none⟩), .pointer (some ⟨p, 0, none⟩)] w fun e w' => e = .returned (.func (.func 70) #[] #[.pointer (some ⟨w.heap.size, 0, none⟩), .pointer (some ⟨w.heap.size + 1, 0, none⟩)]) ∧ w' = (w.alloc (.cells #[.pointer (some ⟨q, 0, none⟩)] 27)).alloc (.cells #[.pointer (some ⟨p, 0, none⟩)] 34) := by
  go_enter Tryz.func39, Tryz.ntmps39
  go_wp2_with fail
  go_ret
  exact ⟨by simp, rfl⟩
set_option maxRecDepth 100000 in
set_option maxHeartbeats 4000000 in
theorem krel_in {w : World} {got : Nat} (hS : SnkR w q (g : Int) (s : Int) got of kn false) (hR : RelR w F p g s k b L) (hq : ¬ F q) :
    Calls Tryz.prog 10 #[.pointer (some ⟨q, 0, none⟩), .pointer (some ⟨p, 0, none⟩)] w (LTold w F p q g s k b L got of kn) := by
  refine (callsIn_wide (n := 8)).1 ?_
  refine callsIn_of_wp_marks Tryz.func10 rfl trivial ?_ rfl
  simp only [Tryz.ntmps10, List.size_toArray, List.length_cons, List.length_nil, Nat.reduceAdd, Nat.reduceSub, Array.replicate_succ, Array.replicate_zero, List.push_toArray, List.append_toArray, List.nil_append, List.cons_append]
  obtain ⟨w3, hw3⟩ : ∃ v, ((w.alloc (.cells #[.pointer (some ⟨q, 0, none⟩)] 27)).alloc (.cells #[.slice none 0 0] 40)).alloc (.cells #[.int .i64 0] 28) = v := ⟨_, rfl⟩
  have k3 : Keep w w3 := by rw [← hw3]; exact (((Keep.refl w).alloc _ _).alloc _ _).alloc _ _
  have hS3 := hS.keep k3
  have him := ismade_any hS3
  have c5 := hS3.c5
  obtain ⟨B0, hB0⟩ : ∃ v, w.heap.size = v := ⟨_, rfl⟩
  have x0 : w3.heap[B0]? = some (.cells #[.pointer (some ⟨q, 0, none⟩)] 27 (0, 0)) := by
    rw [← hw3, ← hB0]; exact (Below.heap_alloc _ _ _ (by simp; omega)).trans ((Below.heap_alloc _ _ _ (by simp)).trans (heap_alloc_new w _))
  have x1 : w3.heap[B0 + 1]? = some (.cells #[.slice none 0 0] 40 (0, 0)) := by
    have h := heap_alloc_new (w.alloc (.cells #[.pointer (some ⟨q, 0, none⟩)] 27)) (.cells #[.slice none 0 0] 40)
    rw [World.size_alloc] at h
    rw [← hw3, ← hB0]; exact (Below.heap_alloc _ _ _ (by simp)).trans h
  have x2 : w3.heap[B0 + 1 + 1]? = some (.cells #[.int .i64 0] 28 (0, 0)) := by
    have h := heap_alloc_new ((w.alloc (.cells #[.pointer (some ⟨q, 0, none⟩)] 27)).alloc (.cells #[.slice none 0 0] 40)) (.cells #[.int .i64 0] 28)
    rw [World.size_alloc, World.size_alloc] at h
    rw [← hw3, ← hB0]; exact h
  have y0 : w3.cell? ⟨B0, 0, none⟩ = some (.pointer (some ⟨q, 0, none⟩)) := cell_of_row _ _ _ _ _ _ x0
  have hrn := rdynew_any (q := q) (p := p) (w3.alloc (.cells #[.slice none 0 0] 40))
  have s3 : w3.heap.size = B0 + 3 := by rw [← hw3, ← hB0]; simp
  gi_wp2_with first
    | (refine ⟨trivial, ?_⟩; gi_at_call 38; refine (callsIn_wide.2 him).mono ?_; rintro e w4 ⟨rfl, h4⟩; rw [h4]; clear h4)
    | (refine ⟨trivial, ?_⟩; gi_at_call 39; refine (callsIn_wide.2 hrn).mono ?_; rintro e w4 ⟨rfl, h4⟩; rw [h4]; clear h4)
  have k4 : Keep w3 (((w3.alloc (.cells #[.slice none 0 0] 40)).alloc (.cells #[.pointer (some ⟨q, 0, none⟩)] 27)).alloc (.cells #[.pointer (some ⟨p, 0, none⟩)] 34)) := (((Keep.refl w3).alloc _ _).alloc _ _).alloc _ _
  have x3 : (((w3.alloc (.cells #[.slice none 0 0] 40)).alloc (.cells #[.pointer (some ⟨q, 0, none⟩)] 27)).alloc (.cells #[.pointer (some ⟨p, 0, none⟩)] 34)).heap[B0 + 3]? = some (.cells #[.slice none 0 0] 40 (0, 0)) := by
    rw [← s3]; exact (Below.heap_alloc _ _ _ (by simp; omega)).trans ((Below.heap_alloc _ _ _ (by simp)).trans (heap_alloc_new w3 _))
  have x4 : (((w3.alloc (.cells #[.slice none 0 0] 40)).alloc (.cells #[.pointer (some ⟨q, 0, none⟩)] 27)).alloc (.cells #[.pointer (some ⟨p, 0, none⟩)] 34)).heap[B0 + 4]? = some (.cells #[.pointer (some ⟨q, 0, none⟩)] 27 (0, 0)) := by
    have h := heap_alloc_new (w3.alloc (.cells #[.slice none 0 0] 40)) (.cells #[.pointer (some ⟨q, 0, none⟩)] 27)
    rw [World.size_alloc, s3] at h
    exact (Below.heap_alloc _ _ _ (by simp; omega)).trans h
  have x5 : (((w3.alloc (.cells #[.slice none 0 0] 40)).alloc (.cells #[.pointer (some ⟨q, 0, none⟩)] 27)).alloc (.cells #[.pointer (some ⟨p, 0, none⟩)] 34)).heap[B0 + 5]? = some (.cells #[.pointer (some ⟨p, 0, none⟩)] 34 (0, 0)) := by
    have h := heap_alloc_new ((w3.alloc (.cells #[.slice none 0 0] 40)).alloc (.cells #[.pointer (some ⟨q, 0, none⟩)] 27)) (.cells #[.pointer (some ⟨p, 0, none⟩)] 34)
    rw [World.size_alloc, World.size_alloc, s3] at h
    exact h
  obtain ⟨wz, hwz⟩ : ∃ v, (((w3.alloc (.cells #[.slice none 0 0] 40)).alloc (.cells #[.pointer (some ⟨q, 0, none⟩)] 27)).alloc (.cells #[.pointer (some ⟨p, 0, none⟩)] 34)) = v := ⟨_, rfl⟩
  have sz : wz.heap.size = B0 + 6 := by rw [← hwz]; simp [s3]
  rw [hwz] at k4 x3 x4 x5 ⊢
  have hz : wz.heap.size = w.heap.size + 6 := by rw [sz, hB0]
  have kz := k3.trans k4
  have h0 : LI w wz F p q g s k b L got of kn none 0 0 [] got := ⟨hS.keep kz, hR.keep kz, hR.lt, hq, hS.lt, RelI.start g s k b L got, OwnRows.nilR _ _, fun r hr => by simp at hr, Turned.of_keep kz,
    by rw [hB0]; exact (k4.block _ (by omega)).trans x0, by rw [hB0]; exact (k4.block _ (by omega)).trans x1, by rw [hB0]; exact (k4.block _ (by omega)).trans x2, by rw [hB0]; exact x3, by rw [hB0]; exact x4, by rw [hB0]; exact x5, by omega⟩
  have H0 := Lib.hid h0
  clear h0 x0 x1 x2 x3 x4 x5 y0 hwz hw3 k3 k4 kz hS3 him c5 hrn hS hR
  refine wpIn_range_phases rfl (by omega) (gf := 70) (bd := #[]) (lb := #[.pointer (some ⟨B0 + 4, 0, none⟩), .pointer (some ⟨B0 + 5, 0, none⟩)]) ?hg trivial (enters_of Tryz.func70 (by kernel_rfl) rfl) (ready_any (F := F) (p := p) (q := q) (g := g) (s := s) (k := k) (b := b) (of := of) (L := L) (kn := kn) _ wz.heap.size (B0 + 4) (B0 + 5) got (by omega) (fun n W => ∃ A m c rs, LI w W F p q g s k b L got of kn A m c rs n) ?hB ?hJ ?hsz) (fun _ => rfl) (fun cc W => cc = .ret ∧ ∃ A m c rs n, LT w W F p q g s k b L got of kn A m c rs n true) ?h0 ?h1 ?h2 ?h3 ?hx ?b ?assign ?body ?done ?stop
  case hg => simp [s3, go_sem]
  case hB =>
    rintro n W ⟨A, m, c, rs, h⟩
    have h := h.box
    rw [hB0] at h
    exact h
  case hJ =>
    rintro n W W' ⟨A, m, c, rs, h⟩ kp
    exact ⟨A, m, c, rs, h.keep kp⟩
  case hsz =>
    rintro n W ⟨A, m, c, rs, h⟩
    rw [hz]; exact h.sz
  case h0 => exact fun V kp => ⟨_, _, _, _, H0.out.keep kp⟩
  case h1 =>
    rintro x W m o o' ⟨⟨A, r, c, rs, h⟩, h1, h2, h3, h4⟩ hm hb hc
    rw [hz] at hm
    refine ⟨⟨A, r, c, rs, h.abide hm hb hc⟩, h1, h2, h3, h4.turned (turned_putObj W m o') fun x e => ?_⟩
    obtain ⟨-, cur, h5⟩ := ownblock_cells h4.1 e
    exact ne_of_cells hb hc h5
  case h2 =>
    rintro x W m o o' ⟨A, r, c, rs, h⟩ hm hb hc
    exact ⟨A, r, c, rs, h.abide (by omega) hb hc⟩
  case h3 =>
    rintro W m o o' ⟨n, ⟨A, r, c, rs, h⟩, h1⟩ hm hb hc
    exact ⟨n, ⟨A, r, c, rs, h.abide (by omega) hb hc⟩, h1⟩
  case hx =>
    rintro cc W m o o' ⟨rfl, A, r, c, rs, n, h⟩ hm hb hc
    exact ⟨rfl, A, r, c, rs, n, h.abide (by omega) hb hc⟩
  case assign =>
    intro l x W K hK
    simp only [Array.zip_eq_zipWith, List.zipWith_toArray, List.zipWith_cons_cons, List.zipWith_nil_right, List.foldl_toArray, List.foldl_cons, List.foldl_nil, List.setIfInBounds_toArray, List.set_cons_zero, List.set_cons_succ]
    gi_wp2
    exact hK
  case body =>
    rintro l ⟨n, A5, r5, c5, V5, e5⟩ W ⟨⟨A, m, c, rs, hI⟩, hrd, he, hxs, ho⟩ hge
    simp only at hI hrd he hxs ho
    subst hxs
    subst he
    rw [hz] at ho
    have HI := Lib.hid hI
    have HO := Lib.hid ho
    have HRD := Lib.hid hrd
    clear hI ho hrd
    have y0 : W.cell? ⟨B0, 0, none⟩ = some (.pointer (some ⟨q, 0, none⟩)) := by rw [← hB0]; exact HI.out.b0.cell
    have y3 : W.cell? ⟨B0 + 3, 0, none⟩ = some (.slice A m c) := by rw [← hB0]; exact HI.out.b3.cell
    obtain ⟨te, hte⟩ : ∃ v, takeE g s (symN g (L n)) = v := ⟨_, rfl⟩
    obtain ⟨V, hV⟩ : ∃ v, takeV g s (symN g (L n)) = v := ⟨_, rfl⟩
    rw [hV] at HO
    rw [hte]
    have HTE := Lib.hid hte
    have HV := Lib.hid hV
    clear hte hV
    by_cases hok : te = 0
    · subst hok
      have c2 := HI.out.sk.c2
      have hn16 := HI.out.few
      have hge2 : w.heap.size + 6 ≤ W.heap.size := HI.out.sz
      obtain ⟨gp, hgp⟩ : ∃ v, n + 1 = v := ⟨_, rfl⟩
      have HG := Lib.hid hgp
      have htop : n < topN := rdy_top HRD.out
      have g1 : (n : Int) + 1 = (gp : Int) := by omega
      have g2 : IntKind.u64.wrap (gp : Int) = (gp : Int) := IntWalk.u64_in _ (by unfold topN at htop; omega)
      have g3 : IntKind.u64.wrap ((n : Int) + 1) = (gp : Int) := by rw [g1]; exact g2
      clear hgp htop
      gi_wp2_with (gi_at_builtin; refine wpListIn_append_row rfl _ _ 40 rfl ⟨A5, r5, c5, V⟩ Tryz.underlying40 infoRow rfl (HI.out.own.alloc _) rfl (by rw [World.cell?_alloc_at _ _ _ _ (by simp)]; rfl) (by omega) (by simp; omega) ?_; intro A9 c9 w9 hown' hgrow; have kT : Turned (fun a => (Value.slice A m c).ownBlock = some a) W w9 := (Turned.of_keep (F := fun a => (Value.slice A m c).ownBlock = some a) ((Keep.refl W).alloc _ _)).trans (Turned.of_grown (F := fun a => (Value.slice A m c).ownBlock = some a) hgrow fun i e => e) fun i e => Or.inl e; obtain ⟨f1, f2, f3, f4, f5, f6, f7⟩ := HI.out.cells kT; rw [hB0] at f1 f2 f5 f6 f7)
      have hm := HI.out.more (r := ⟨A5, r5, c5, V⟩) HRD.out HTE.out HV.out.symm HO.out hown' kT
      have hk := HI.out.kf kT (.slice A9 (m + 1) c9) (.int .u64 ((n + 1 : Nat) : Int)) wz.heap.size
      rw [HG.out] at hm hk
      rw [hB0] at hm hk
      refine ⟨hk, ?_⟩
      show ∃ A m c rs, LI w _ F p q g s k b L got of kn A m c rs (n + 1)
      rw [HG.out]
      exact ⟨_, _, _, _, hm⟩
    · have hb0 : (te == 0) = false := by rw [beq_eq_false_iff_ne]; exact hok
      have hb1 : (te != 0) = true := by rw [bne, hb0]; rfl
      have z5 := HI.out.sk.free 5
      have y5 := HI.out.sk.c5
      have n1 : ¬ q = B0 + 1 := by have := HI.out.ql; omega
      have n1' : ¬ B0 + 1 = q := by omega
      have n2 : ¬ q = B0 + 1 + 1 := by have := HI.out.ql; omega
      have n2' : ¬ B0 + 1 + 1 = q := by omega
      have n3 : ¬ q = B0 + 3 := by have := HI.out.ql; omega
      have n3' : ¬ B0 + 3 = q := by omega
      have z1 : W.frozen? ⟨B0 + 1, 0, none⟩ = false := by rw [← hB0]; exact HI.out.b1.frozen
      have y1 : W.cell? ⟨B0 + 1, 0, none⟩ = some (.slice none 0 0) := by rw [← hB0]; exact HI.out.b1.cell
      have z2 : W.frozen? ⟨B0 + 1 + 1, 0, none⟩ = false := by rw [← hB0]; exact HI.out.b2.frozen
      have y2 : W.cell? ⟨B0 + 1 + 1, 0, none⟩ = some (.int .i64 0) := by rw [← hB0]; exact HI.out.b2.cell
      gi_wp2
      have hm := HI.out.broke HRD.out (by rw [HTE.out]; exact hok)
      have hk := HI.out.kfb (.bool true) (.slice A m c) (.int .i64 5) wz.heap.size
      rw [hB0] at hm hk
      exact ⟨hk, rfl, _, _, _, _, _, hm⟩
  case done =>
    rintro D W hD ⟨n, ⟨A, m, c, rs, hI⟩, hrd⟩ hK
    have HI := Lib.hid hI
    have HRD := Lib.hid hrd
    have HK := Lib.hid hK
    clear hI hrd hK
    have y3 : W.cell? ⟨B0 + 3, 0, none⟩ = some (.slice A m c) := by rw [← hB0]; exact HI.out.b3.cell
    have z1 : W.frozen? ⟨B0 + 1, 0, none⟩ = false := by rw [← hB0]; exact HI.out.b1.frozen
    have y1 : W.cell? ⟨B0 + 1, 0, none⟩ = some (.slice none 0 0) := by rw [← hB0]; exact HI.out.b1.cell
    have z2 : W.frozen? ⟨B0 + 1 + 1, 0, none⟩ = false := by rw [← hB0]; exact HI.out.b2.frozen
    have y2 : W.cell? ⟨B0 + 1 + 1, 0, none⟩ = some (.int .i64 0) := by rw [← hB0]; exact HI.out.b2.cell
    gi_wp2
    have hK2 : ((W.setCell ⟨B0 + 1, 0, none⟩ (.slice A m c)).setCell ⟨B0 + 1 + 1, 0, none⟩ (.int .i64 0)).heap[D]? = some (.deferred (some [])) := (Below.heap_setCell _ _ _ D (by simp; omega)).trans ((Below.heap_setCell _ _ _ D (by simp; omega)).trans HK.out)
    have hT := HI.out.told HRD.out
    rw [hB0] at hT
    have hT2 := LT.abide (o' := .deferred none) hT (by omega) hK2 rfl
    have b1 := hT2.b1.cell
    have b2 := hT2.b2.cell
    rw [hB0] at b1 b2
    refine ⟨by simp, .inl ⟨_, _, rfl, run_takeDeferred hK2, ?_⟩⟩
    exact ⟨_, results_two rfl _ _ _ _ _ _ rfl rfl b1 b2 (by simp [isAgg, go_sem, Tryz.underlying40]) (by simp [isAgg, go_sem, Tryz.underlying28]), hT2.out⟩
  case stop =>
    rintro D cc W hD ⟨rfl, A, m, c, rs, n, hT⟩ hK
    have hT2 := LT.abide (o' := .deferred none) hT (by omega) hK rfl
    have b1 := hT2.b1.cell
    have b2 := hT2.b2.cell
    rw [hB0] at b1 b2
    have HT := Lib.hid hT2
    clear hT hT2
    gi_wp2
    refine ⟨by simp, .inl ⟨_, _, rfl, run_takeDeferred hK, ?_⟩⟩
    exact ⟨_, results_two rfl _ _ _ _ _ _ rfl rfl b1 b2 (by simp [isAgg, go_sem, Tryz.underlying40]) (by simp [isAgg, go_sem, Tryz.underlying28]), HT.out.out⟩
end
end Go.Proofs.YtgelalbmhllccaaGreat
/- The landed sink: its other calls. -/
namespace Go.Proofs.YtgelalbmhllccaaGreat
open Go.RowKit Lin
set_option linter.unusedVariables false
set_option linter.unusedSimpArgs false
section
variable {w : World} {q got of : Nat} {g s : Int} {kn br : Bool}
set_option maxRecDepth 100000 in
theorem lsnew_in (g s : Int) (n : Nat) (hm : MayG g s) (hn : n ≤ topN) (w : World) :
    Calls Tryz.prog 6 #[.int .i64 g, .int .i64 s, .int .u64 (n : Int)] w fun e w' => e = .returned (.tuple #[.pointer (some ⟨w.heap.size, 0, none⟩), .int .i64 0]) ∧ SnkR w' w.heap.size g s n 0 false false ∧ Keep w w' := by
  have HM : Hid (MayG g s ∧ n ≤ topN) := ⟨hm, hn⟩
  have HR := Lib.hid (proom_any g s w)
  have e0 : roomE g s = 0 := if_pos hm
  have hn1 : ¬ (1099511627776 : Int) < (n : Int) := by unfold topN at hn; omega
  have hn2 : decide ((1099511627776 : Int) < (n : Int)) = false := decide_eq_false hn1
  rw [e0] at HR
  clear hm hn e0
  go_enter Tryz.func6, Tryz.ntmps6
  go_wp2_with fail
  refine HR.out.mono ?_
  rintro e w1 ⟨rfl, rfl⟩
  go_wp2_with fail
  go_ret2
  exact ⟨rfl, ⟨heap_alloc_new w _, HM.out.1, HM.out.2⟩, (Keep.refl w).alloc _ _⟩
/-- What Total tells, and leaves. -/
def ltotE (got of n : Nat) (kn : Bool) : Int := if n < got ∨ topN < n then 1 else if kn = true ∧ of ≠ n then 9 else 0
def ltotOf (got of n : Nat) (kn : Bool) : Nat := if ltotE got of n kn = 0 then n else of
def ltotKn (got of n : Nat) (kn : Bool) : Bool := if ltotE got of n kn = 0 then true else kn
set_option maxRecDepth 100000 in
set_option maxHeartbeats 2000000 in
theorem ltotal_any (h : SnkR w q g s got of kn br) (n : Nat) (hn : n < 18446744073709551616) :
    Calls Tryz.prog 15 #[.pointer (some ⟨q, 0, none⟩), .int .u64 (n : Int)] w fun e w' => e = .returned (.int .i64 (ltotE got of n kn)) ∧ SnkR w' q g s got (ltotOf got of n kn) (ltotKn got of n kn) br ∧ Turned (fun a => a = q) w w' := by
  have H := Lib.hid h
  have c2 := h.c2
  have c3 := h.c3
  have c4 := h.c4
  have z3 := h.free 3
  have z4 := h.free 4
  have HIM := Lib.hid (ismade_any h)
  clear h
  by_cases h1 : n < got
  · have e : ltotE got of n kn = 1 := if_pos (Or.inl h1)
    rw [ltotOf, ltotKn, e]
    have d1 : (n : Int) < (got : Int) := by omega
    have d2 : decide ((n : Int) < (got : Int)) = true := decide_eq_true d1
    clear e h1
    go_enter Tryz.func15, Tryz.ntmps15
    go_wp2_with fail
    refine HIM.out.mono ?_
    rintro e w1 ⟨rfl, hw1⟩
    obtain rfl : w = w1 := hw1.symm
    go_wp2_with fail
    go_ret
    exact ⟨rfl, H.out, Turned.refl _ _⟩
  · have d1 : ¬ (n : Int) < (got : Int) := by omega
    have d2 : decide ((n : Int) < (got : Int)) = false := decide_eq_false d1
    by_cases h2 : topN < n
    · have e : ltotE got of n kn = 1 := if_pos (Or.inr h2)
      rw [ltotOf, ltotKn, e]
      have d3 : (1099511627776 : Int) < (n : Int) := by unfold topN at h2; omega
      have d4 : decide ((1099511627776 : Int) < (n : Int)) = true := decide_eq_true d3
      clear e h1 h2
      go_enter Tryz.func15, Tryz.ntmps15
      go_wp2_with fail
      refine HIM.out.mono ?_
      rintro e w1 ⟨rfl, hw1⟩
      obtain rfl : w = w1 := hw1.symm
      go_wp2_with fail
      go_ret
      exact ⟨rfl, H.out, Turned.refl _ _⟩
    · have d3 : ¬ (1099511627776 : Int) < (n : Int) := by unfold topN at h2; omega
      have d4 : decide ((1099511627776 : Int) < (n : Int)) = false := decide_eq_false d3
      have hlow : ¬ (n < got ∨ topN < n) := by omega
      have fin : ∀ (k0 : Bool), SnkR w q g s got of k0 br → SnkR ((w.setCell ⟨q, 3, none⟩ (.int .u64 (n : Int))).setCell ⟨q, 4, none⟩ (.bool true)) q g s got n true br ∧ Turned (fun a => a = q) w ((w.setCell ⟨q, 3, none⟩ (.int .u64 (n : Int))).setCell ⟨q, 4, none⟩ (.bool true)) ∧ (w.setCell ⟨q, 3, none⟩ (.int .u64 (n : Int))).frozen? ⟨q, 4, none⟩ = false ∧ (w.setCell ⟨q, 3, none⟩ (.int .u64 (n : Int))).cell? ⟨q, 4, none⟩ = some (.bool k0) := fun k0 hh =>
        ⟨(hh.setOf n).setKn true, (Turned.set (F := fun a => a = q) w ⟨q, 3, none⟩ _ rfl).trans (Turned.set (F := fun a => a = q) _ ⟨q, 4, none⟩ _ rfl) fun j e => Or.inl e, (hh.setOf n).free 4, (hh.setOf n).c4⟩
      cases kn with
      | false =>
        have e : ltotE got of n false = 0 := by rw [ltotE, if_neg hlow, if_neg (by simp)]
        rw [ltotOf, ltotKn, e]
        clear e h1 h2 hlow
        obtain ⟨f1, f2, f3, f4⟩ := fin _ H.out
        have HF := Lib.hid (And.intro f1 f2)
        clear f1 f2 fin
        go_enter Tryz.func15, Tryz.ntmps15
        go_wp2_with fail
        refine HIM.out.mono ?_
        rintro e w1 ⟨rfl, hw1⟩
        obtain rfl : w = w1 := hw1.symm
        go_wp2_with fail
        go_ret
        exact ⟨rfl, HF.out.1, HF.out.2⟩
      | true =>
        by_cases h3 : of = n
        · have e : ltotE got of n true = 0 := by rw [ltotE, if_neg hlow, if_neg (by simp [h3])]
          rw [ltotOf, ltotKn, e]
          have d5 : ((n : Int) != (of : Int)) = false := by simp [h3]
          have d6 : ((n : Int) == (of : Int)) = true := by simp [h3]
          clear e h1 h2 hlow h3
          obtain ⟨f1, f2, f3, f4⟩ := fin _ H.out
          have HF := Lib.hid (And.intro f1 f2)
          clear f1 f2 fin
          go_enter Tryz.func15, Tryz.ntmps15
          go_wp2_with fail
          refine HIM.out.mono ?_
          rintro e w1 ⟨rfl, hw1⟩
          obtain rfl : w = w1 := hw1.symm
          go_wp2_with fail
          go_ret
          exact ⟨rfl, HF.out.1, HF.out.2⟩
        · have e : ltotE got of n true = 9 := by rw [ltotE, if_neg hlow, if_pos ⟨rfl, h3⟩]
          rw [ltotOf, ltotKn, e]
          have d5 : ((n : Int) != (of : Int)) = true := by rw [bne_iff_ne]; omega
          have d6 : ((n : Int) == (of : Int)) = false := by rw [beq_eq_false_iff_ne]; omega
          clear e h1 h2 hlow h3 fin
          go_enter Tryz.func15, Tryz.ntmps15
          go_wp2_with fail
          refine HIM.out.mono ?_
          rintro e w1 ⟨rfl, hw1⟩
          obtain rfl : w = w1 := hw1.symm
          go_wp2_with fail
          go_ret
          exact ⟨rfl, H.out, Turned.refl _ _⟩
set_option maxRecDepth 100000 in
theorem ldelivered_any (h : SnkR w q g s got of kn br) :
    Calls Tryz.prog 20 #[.pointer (some ⟨q, 0, none⟩)] w fun e w' => e = .returned (.int .u64 (got : Int)) ∧ w = w' := by
  have c2 := h.c2
  have HIM := Lib.hid (ismade_any h)
  clear h
  go_enter Tryz.func20, Tryz.ntmps20
  go_wp2_with fail
  refine HIM.out.mono ?_
  rintro e w1 ⟨rfl, hw1⟩
  obtain rfl : w = w1 := hw1.symm
  go_wp2_with fail
  go_ret
  exact ⟨rfl, rfl⟩
set_option maxRecDepth 100000 in
theorem lknown_any (h : SnkR w q g s got of kn br) :
    Calls Tryz.prog 19 #[.pointer (some ⟨q, 0, none⟩)] w fun e w' => e = .returned (.tuple #[.int .u64 (of : Int), .bool kn]) ∧ ∃ m, w' = w.drewN m := by
  have c3 := h.c3
  have c4 := h.c4
  have HIM := Lib.hid (ismade_any h)
  clear h
  go_enter Tryz.func19, Tryz.ntmps19
  go_wp2_with fail
  refine HIM.out.mono ?_
  rintro e w1 ⟨rfl, hw1⟩
  obtain rfl : w = w1 := hw1.symm
  go_wp2_with fail
  go_quiet (fail)
  go_wp2_with fail
  go_ret2
  exact ⟨rfl, _, rfl⟩
theorem SnkR.drewN (h : SnkR w q g s got of kn br) (m : Nat) : SnkR (w.drewN m) q g s got of kn br := ⟨h.block, h.may, h.top⟩
set_option maxRecDepth 100000 in
theorem ldone_any (h : SnkR w q g s got of kn br) :
    Calls Tryz.prog 21 #[.pointer (some ⟨q, 0, none⟩)] w fun e w' => e = .returned (.bool (kn && decide (of = got))) ∧ ∃ m, w' = w.drewN m := by
  have HK := Lib.hid (lknown_any h)
  have hd : ∀ m, Calls Tryz.prog 20 #[.pointer (some ⟨q, 0, none⟩)] (w.drewN m) fun e w' => e = .returned (.int .u64 (got : Int)) ∧ w.drewN m = w' := fun m => ldelivered_any (h.drewN m)
  have HD := Lib.hid hd
  have dd : decide (of = got) = ((of : Int) == (got : Int)) := by
    by_cases e : of = got
    · rw [decide_eq_true e, e]; simp
    · rw [decide_eq_false e]; symm; rw [beq_eq_false_iff_ne]; omega
  rw [dd]
  clear dd h hd
  go_enter Tryz.func21, Tryz.ntmps21
  go_wp2_with fail
  refine HK.out.mono ?_
  rintro e w1 ⟨rfl, m, rfl⟩
  cases kn with
  | false =>
    go_wp2_with fail
    go_ret
    exact ⟨rfl, _, rfl⟩
  | true =>
    go_wp2_with fail
    refine (HD.out m).mono ?_
    rintro e w1 ⟨rfl, rfl⟩
    go_wp2_with fail
    go_ret
    exact ⟨by first | rfl | simp, _, rfl⟩
end
section
variable {w : World} {q p got of : Nat} {g s : Int} {kn br : Bool}
end
end Go.Proofs.YtgelalbmhllccaaGreat
/- Of true rows a sink releases a beginning, plainly. -/
namespace Go.Proofs.YtgelalbmhllccaaGreat
open Lin
set_option linter.unusedVariables false
/-- Chunks that may be. -/
structure ChkM (g s : Nat) (M : List (List Nat)) : Prop where
  g1 : 1 ≤ g
  gs : g * s < 4294967296
  ok : ∀ n, n < M.length → AllB (M.getD n []) ∧ 1 ≤ (M.getD n []).length ∧ (M.getD n []).length + 4 ≤ g * s
namespace ChkM
variable {g s n : Nat} {M : List (List Nat)}
theorem sz (h : ChkM g s M) (hn : n < M.length) : Sz g s (layN g s (M.getD n [])) := by
  obtain ⟨a, b, c⟩ := h.ok n hn
  refine ⟨cutsN_len _ _ _, fun x hx => ?_⟩
  obtain ⟨i, hi, rfl⟩ := List.mem_map.1 hx
  exact ⟨cutN_len (allN_len c) (List.mem_range.1 hi), cutN_all (allN_all a)⟩
theorem take (h : ChkM g s M) (hn : n < M.length) : takeE g s (layN g s (M.getD n [])) = 0 ∧ takeV g s (layN g s (M.getD n [])) = M.getD n [] := take_lay (h.ok n hn).2.1 (h.ok n hn).2.2 h.gs
end ChkM
/-- All that lies there is M's. -/
structure TruL (g s : Nat) (M : List (List Nat)) (L : Nat → List (List Nat)) : Prop where
  bas : ∀ n, Bas g s (L n)
  w : ∀ n, n < M.length → Within (L n).length (fn (L n)) g (symR g (layN g s (M.getD n [])))
  no : ∀ n, M.length ≤ n → L n = []
namespace TruL
variable {g s k b n n' c : Nat} {M : List (List Nat)} {L : Nat → List (List Nat)} {l : List (List Nat)} {br : Bool} {row : List Nat}
theorem start (g s : Nat) (M : List (List Nat)) : TruL g s M fun _ => [] := ⟨fun _ => Bas.nil g s, fun _ _ i hi => by simp at hi, fun _ _ => rfl⟩
theorem put (h : TruL g s M L) (hn : n < M.length) (hl : row.length = g + s) (ha : AllB row) (hr : InSpan g (symR g (layN g s (M.getD n []))) (vec row)) : TruL g s M (upd L n (insB g s (L n) row)) := by
  refine ⟨fun m => ?_, fun m hm => ?_, fun m hm => ?_⟩
  · by_cases e : m = n
    · subst e; rw [upd_at]; exact insB_bas (h.bas m) hl ha
    · rw [upd_ne _ _ e]; exact h.bas m
  · by_cases e : m = n
    · subst e; rw [upd_at]; exact (insB_sym (h.bas m) (h.w m hm) hl ha hr).2.1
    · rw [upd_ne _ _ e]; exact h.w m hm
  · rw [upd_ne _ _ (by omega)]; exact h.no m hm
theorem move (h : TruL g s M L) (c k : Nat) : TruL g s M (moveL c k L) := by
  refine ⟨fun m => ?_, fun m hm => ?_, fun m hm => ?_⟩
  · rw [moveL]; split
    · exact h.bas m
    · exact Bas.nil g s
  · rw [moveL]; split
    · exact h.w m hm
    · intro i hi; simp at hi
  · rw [moveL]; split
    · exact h.no m hm
    · rfl
/-- A generation that can be solved is there, and its symbols are its chunk's. -/
theorem rdy (h : TruL g s M L) (hc : ChkM g s M) (hr : rdyN g k b L n) : n < M.length ∧ symN g (L n) = layN g s (M.getD n []) ∧ takeE g s (symN g (L n)) = 0 ∧ takeV g s (symN g (L n)) = M.getD n [] := by
  have hn : n < M.length := by
    rcases Nat.lt_or_ge n M.length with e | e
    · exact e
    · have h1 := hr.2
      rw [h.no n e] at h1
      have := hc.g1
      simp at h1
      omega
  have e := solved (hc.sz hn) (h.bas n) (h.w n hn) hr.2
  have e2 : symN g (L n) = layN g s (M.getD n []) := e
  refine ⟨hn, e2, ?_, ?_⟩
  · rw [e2]; exact (hc.take hn).1
  · rw [e2]; exact (hc.take hn).2
/-- What is released is M's, from n on; nothing is broken. -/
theorem told (h : TruL g s M L) (hc : ChkM g s M) (hr : RelT g s k b L n l n' br) (hn : n ≤ M.length) : br = false ∧ n' ≤ M.length ∧ l = (M.drop n).take l.length ∧ M.take n' = M.take n ++ l := by
  have h1 : br = false := by
    cases br with
    | false => rfl
    | true => exact absurd (h.rdy hc (hr.bad rfl).1).2.2.1 (hr.bad rfl).2
  have h2 : n + l.length ≤ M.length := by
    rcases Nat.eq_zero_or_pos l.length with e | e
    · omega
    · have := (h.rdy hc (hr.at_ (l.length - 1) (by omega)).1).1
      omega
  have h3 : l = (M.drop n).take l.length := by
    refine List.ext_getElem (by rw [List.length_take, List.length_drop]; omega) fun i a c => ?_
    have h4 := (hr.at_ i a).2.2
    rw [(h.rdy hc (hr.at_ i a).1).2.2.2] at h4
    simp only [List.getD, List.getElem?_eq_getElem a, Option.getD_some] at h4
    rw [h4, List.getElem_take, List.getElem_drop, List.getElem?_eq_getElem (by omega), Option.getD_some]
  refine ⟨h1, by rw [hr.j]; exact h2, h3, ?_⟩
  rw [hr.j, List.take_add, ← h3]
end TruL
/-- What was released, one behind the other, is a beginning; it is all if all chunks were released, and only then. -/
theorem begun {g s n : Nat} {M : List (List Nat)} {xs : List Nat} (hc : ChkM g s M) (hx : M.flatten = xs) (hn : n ≤ M.length) : (M.take n).flatten = xs.take (M.take n).flatten.length ∧ ((M.take n).flatten.length = xs.length ↔ n = M.length) := by
  have e : M.flatten = (M.take n).flatten ++ (M.drop n).flatten := by rw [← List.flatten_append, List.take_append_drop]
  refine ⟨by rw [← hx]; conv => rhs; rw [e, List.take_left' rfl], ?_⟩
  rw [← hx]
  have hl : M.flatten.length = (M.take n).flatten.length + (M.drop n).flatten.length := by rw [e, List.length_append]
  refine ⟨fun h => ?_, fun h => by rw [h, List.take_length]⟩
  rcases Nat.lt_or_ge n M.length with h1 | h1
  · have h2 : (M.drop n).flatten.length = 0 := by omega
    have h3 : M[n] ∈ M.drop n := by rw [List.drop_eq_getElem_cons h1]; exact List.mem_cons_self
    have h4 := (hc.ok n h1).2.1
    rw [List.getD_eq_getElem?_getD, List.getElem?_eq_getElem h1, Option.getD_some] at h4
    obtain ⟨x, hx2⟩ := List.exists_mem_of_length_pos h4
    have h5 : x ∈ (M.drop n).flatten := List.mem_flatten.2 ⟨_, h3, hx2⟩
    rw [List.length_eq_zero_iff] at h2
    rw [h2] at h5
    simp at h5
  · omega
end Go.Proofs.YtgelalbmhllccaaGreat
/- Layer 13, plainly: a stream, its cuts, its generations. -/
namespace Go.Proofs.YtgelalbmhllccaaGreat
set_option linter.unusedVariables false
/-- The generations' bytes; where the open ones begin. -/
def gensN (room : Nat) (cuts xs : List Nat) : List (List Nat) := (chunkN room cuts xs (xs.length + 1)).1
def fromN (room : Nat) (cuts xs : List Nat) : Nat := (chunkN room cuts xs (xs.length + 1)).2
def openN (room : Nat) (cuts xs : List Nat) : List Nat := xs.drop (fromN room cuts xs)
section
variable {room : Nat} {cuts xs : List Nat}
/-- Cuts from the place on change nothing ahead of it. -/
theorem chunk_ahead {cuts' : List Nat} : ∀ t, (∀ x, x < t → (x ∈ cuts ↔ x ∈ cuts')) → chunkN room cuts xs t = chunkN room cuts' xs t
  | 0, _ => rfl
  | t + 1, h => by
    rw [chunkN_succ, chunkN_succ, chunk_ahead t fun x hx => h x (by omega)]
    have e : isEnd room cuts (chunkN room cuts' xs t).2 t ↔ isEnd room cuts' (chunkN room cuts' xs t).2 t := by
      unfold isEnd; rw [h t (by omega)]
    by_cases h2 : isEnd room cuts (chunkN room cuts' xs t).2 t
    · rw [if_pos h2, if_pos (e.1 h2)]
    · rw [if_neg h2, if_neg (fun x => h2 (e.2 x))]
theorem from_le (h1 : 1 ≤ room) : fromN room cuts xs ≤ xs.length := by
  have := (chunk_from (cuts := cuts) (xs := xs) h1 (xs.length + 1)).1
  unfold fromN; omega
/-- Generations and what is open are the stream. -/
theorem gens_flat (h1 : 1 ≤ room) : (gensN room cuts xs).flatten ++ openN room cuts xs = xs := by
  rw [gensN, openN, fromN, (chunk_flat h1 _ (Nat.le_refl _)).1, List.take_append_drop]
/-- Each has something, and no more than there is room for. -/
theorem gens_each (h1 : 1 ≤ room) : ∀ r ∈ gensN room cuts xs, 1 ≤ r.length ∧ r.length ≤ room := (chunk_flat h1 _ (Nat.le_refl _)).2
/-- A cut at the end: what is open is the last generation, and nothing is open. -/
theorem gens_cut (h1 : 1 ≤ room) (ho : openN room cuts xs ≠ []) : gensN room (cuts ++ [xs.length]) xs = gensN room cuts xs ++ [openN room cuts xs] ∧ openN room (cuts ++ [xs.length]) xs = [] := by
  have hf := from_le (cuts := cuts) (xs := xs) h1
  have hlt : fromN room cuts xs < xs.length := by
    rcases Nat.lt_or_ge (fromN room cuts xs) xs.length with h | h
    · exact h
    · exact absurd (by rw [openN, List.drop_eq_nil_iff]; exact h) ho
  have ha : chunkN room (cuts ++ [xs.length]) xs xs.length = chunkN room cuts xs xs.length := (chunk_ahead _ fun x hx => by simp; omega).symm
  have hs := chunkN_succ (room := room) (cuts := cuts) (xs := xs) xs.length
  have hn : ¬ isEnd room cuts (chunkN room cuts xs xs.length).2 xs.length := fun h => by
    rw [if_pos h] at hs
    have : fromN room cuts xs = xs.length := by rw [fromN, hs]
    omega
  rw [if_neg hn] at hs
  have hfr : (chunkN room cuts xs xs.length).2 = fromN room cuts xs := by rw [fromN, hs]
  have he : isEnd room (cuts ++ [xs.length]) (chunkN room cuts xs xs.length).2 xs.length := Or.inr ⟨by rw [hfr]; exact hlt, by simp⟩
  have hs2 := chunkN_succ (room := room) (cuts := cuts ++ [xs.length]) (xs := xs) xs.length
  rw [ha, if_pos he] at hs2
  refine ⟨?_, ?_⟩
  · rw [gensN, gensN, hs2, hs, hfr]
    congr 1
    rw [pieceN, openN]
    rw [List.take_of_length_le (by rw [List.length_drop]; omega)]
  · rw [openN, fromN, hs2, List.drop_length]
/-- How many there are with one for what would be open. -/
def wouldN (room : Nat) (cuts xs : List Nat) : Nat := (gensN room cuts xs).length + (if openN room cuts xs = [] then 0 else 1)
end
end Go.Proofs.YtgelalbmhllccaaGreat
/- Layer 13, plainly: the places where generations end, and what a Submit adds. -/
namespace Go.Proofs.YtgelalbmhllccaaGreat
set_option linter.unusedVariables false
/-- Where chunk i begins. -/
def startN (M : List (List Nat)) (i : Nat) : Nat := (M.take i).flatten.length
theorem startN_zero (M : List (List Nat)) : startN M 0 = 0 := by simp [startN]
theorem startN_succ {M : List (List Nat)} {i : Nat} {r : List Nat} (h : M[i]? = some r) : startN M (i + 1) = startN M i + r.length := by
  rw [startN, List.take_add_one, h, List.flatten_append, List.length_append, startN]; simp
theorem startN_all (M : List (List Nat)) : startN M M.length = M.flatten.length := by rw [startN, List.take_length]
theorem startN_le (M : List (List Nat)) (i : Nat) : startN M i ≤ M.flatten.length := by
  conv => rhs; rw [← List.take_append_drop i M, List.flatten_append, List.length_append]
  rw [startN]; omega
theorem startN_app (M N : List (List Nat)) {i : Nat} (h : i ≤ M.length) : startN (M ++ N) i = startN M i := by
  rw [startN, startN, List.take_append_of_le_length h]
/-- A chunk of the stream, by its place. -/
theorem startN_piece {M : List (List Nat)} {xs : List Nat} {f i : Nat} {r : List Nat} (hf : M.flatten = xs.take f) (hl : f ≤ xs.length) (h : M[i]? = some r) : r = pieceN xs (startN M i) (startN M i + r.length) ∧ startN M i + r.length ≤ f := by
  have hfl : M.flatten.length = f := by rw [hf, List.length_take]; omega
  have hi : i < M.length := by
    rcases Nat.lt_or_ge i M.length with h1 | h1
    · exact h1
    · rw [List.getElem?_eq_none h1] at h; cases h
  have hle : startN M i + r.length ≤ f := by rw [← startN_succ h, ← hfl]; exact startN_le M (i + 1)
  refine ⟨?_, hle⟩
  have hd : M.drop i = r :: M.drop (i + 1) := by
    rw [List.drop_eq_getElem_cons hi]
    rw [List.getElem?_eq_getElem hi] at h
    injection h with h
    rw [h]
  have e1 : (xs.take f).drop (startN M i) = r ++ (M.drop (i + 1)).flatten := by
    have e0 : M.flatten = (M.take i).flatten ++ (M.drop i).flatten := by rw [← List.flatten_append, List.take_append_drop]
    rw [← hf, e0, List.drop_left' (show (M.take i).flatten.length = startN M i from rfl), hd, List.flatten_cons]
  have e2 : ((xs.take f).drop (startN M i)).take r.length = r := by rw [e1, List.take_left' rfl]
  rw [pieceN, Nat.add_sub_cancel_left]
  conv => lhs; rw [← e2]
  rw [List.drop_take, List.take_take, Nat.min_eq_left (by omega)]
/-- The ends of chunks. -/
def endsN (M : List (List Nat)) : List Nat := (List.range M.length).map fun i => startN M (i + 1)
theorem endsN_len (M : List (List Nat)) : (endsN M).length = M.length := by simp [endsN]
theorem endsN_get {M : List (List Nat)} {i : Nat} (h : i < M.length) : (endsN M)[i]? = some (startN M (i + 1)) := by
  rw [endsN, List.getElem?_map, List.getElem?_range h]; rfl
theorem endsN_more (M : List (List Nat)) (r : List Nat) : endsN (M ++ [r]) = endsN M ++ [M.flatten.length + r.length] := by
  rw [endsN, endsN, List.length_append, show M.length + [r].length = M.length + 1 from rfl, List.range_succ, List.map_append]
  congr 1
  · refine List.map_congr_left fun i hi => ?_
    have := List.mem_range.1 hi
    exact startN_app M [r] (by omega)
  · show [startN (M ++ [r]) (M.length + 1)] = _
    rw [startN_succ (r := r) (by simp), startN_app M [r] (Nat.le_refl _), startN_all]
section
variable {room : Nat} {cs xs : List Nat}
theorem chunk_mono (t : Nat) (h1 : 1 ≤ room) : ∀ d, (chunkN room cs xs t).2 ≤ (chunkN room cs xs (t + d)).2
  | 0 => Nat.le_refl _
  | d + 1 => by
    have ih := chunk_mono t h1 d
    rw [← Nat.add_assoc, chunkN_succ]
    split
    · have := (chunk_from (cuts := cs) (xs := xs) h1 (t + d)).1
      show _ ≤ t + d
      omega
    · exact ih
/-- If no chunk ended since, nothing has changed. -/
theorem chunk_still (t : Nat) : ∀ d, (chunkN room cs xs (t + d)).2 < t → chunkN room cs xs (t + d) = chunkN room cs xs t
  | 0, _ => rfl
  | d + 1, h => by
    rw [← Nat.add_assoc] at h ⊢
    rw [chunkN_succ] at h ⊢
    split at h
    · rename_i e
      have h : t + d < t := h
      omega
    · rename_i e
      rw [if_neg e]
      exact chunk_still t d h
theorem gens_from (h1 : 1 ≤ room) : chunkN room cs xs (fromN room cs xs + 1) = (gensN room cs xs, fromN room cs xs) := by
  have hle := from_le (cuts := cs) (xs := xs) h1
  have := chunk_still (room := room) (cs := cs) (xs := xs) (fromN room cs xs + 1) (xs.length - fromN room cs xs)
  rw [show fromN room cs xs + 1 + (xs.length - fromN room cs xs) = xs.length + 1 by omega] at this
  exact (this (Nat.lt_succ_self _)).symm
theorem gens_flen (h1 : 1 ≤ room) : (gensN room cs xs).flatten.length = fromN room cs xs := by
  rw [gensN, (chunk_flat h1 _ (Nat.le_refl _)).1, List.length_take]
  have := from_le (cuts := cs) (xs := xs) h1
  rw [fromN] at this ⊢; omega
theorem gens_take (h1 : 1 ≤ room) : (gensN room cs xs).flatten = xs.take (fromN room cs xs) := (chunk_flat h1 _ (Nat.le_refl _)).1
theorem open_flen : (openN room cs xs).length = xs.length - fromN room cs xs := by rw [openN, List.length_drop]
/-- A cut lies where a generation ends. -/
theorem cut_le (h1 : 1 ≤ room) (hc : ∀ c ∈ cs, c ≤ xs.length) : ∀ c ∈ cs, c ≤ fromN room cs xs := by
  intro c h
  rcases chunk_cut (xs := xs) h1 h with h0 | ⟨h2, _⟩
  · omega
  · have := chunk_mono (cs := cs) (xs := xs) (c + 1) h1 (xs.length - c)
    rw [h2, show c + 1 + (xs.length - c) = xs.length + 1 by have := hc c h; omega] at this
    exact this
theorem chunk_wait (f' : Nat) (hc : ∀ c ∈ cs, c ≤ f') (t : Nat) (ht : f' < t) (hf : (chunkN room cs xs t).2 = f') : ∀ d, t + d ≤ f' + room → chunkN room cs xs (t + d) = chunkN room cs xs t
  | 0, _ => rfl
  | d + 1, h => by
    have ih := chunk_wait f' hc t ht hf d (by omega)
    rw [← Nat.add_assoc, chunkN_succ, ih, hf, if_neg]
    rintro (e | ⟨_, e⟩)
    · omega
    · have := hc _ e; omega
theorem chunk_fill (f' : Nat) (hc : ∀ c ∈ cs, c ≤ f') (h1 : 1 ≤ room) (M : List (List Nat)) (hf : chunkN room cs xs (f' + 1) = (M, f')) : chunkN room cs xs (f' + room + 1) = (M ++ [pieceN xs f' (f' + room)], f' + room) := by
  have hw := chunk_wait (xs := xs) f' hc (f' + 1) (by omega) (by rw [hf]) (room - 1) (by omega)
  rw [show f' + 1 + (room - 1) = f' + room by omega, hf] at hw
  rw [chunkN_succ, hw]
  exact if_pos (Or.inl (by show f' + room - f' = room; omega))
end
/-- Full pieces behind place f. -/
def fullN (room : Nat) (xs : List Nat) (f j : Nat) : List (List Nat) := (List.range j).map fun i => pieceN xs (f + i * room) (f + i * room + room)
theorem fullN_succ (room : Nat) (xs : List Nat) (f j : Nat) : fullN room xs f (j + 1) = fullN room xs f j ++ [pieceN xs (f + j * room) (f + j * room + room)] := by
  rw [fullN, fullN, List.range_succ, List.map_append]; rfl
theorem fullN_len (room : Nat) (xs : List Nat) (f j : Nat) : (fullN room xs f j).length = j := by simp [fullN]
theorem fullN_flen {room : Nat} {xs : List Nat} {f : Nat} : ∀ j, f + j * room ≤ xs.length → (fullN room xs f j).flatten.length = j * room
  | 0, _ => by simp [fullN]
  | j + 1, h => by
    rw [Nat.add_mul, Nat.one_mul] at h ⊢
    rw [fullN_succ, List.flatten_append, List.length_append, fullN_flen j (by omega)]
    simp only [List.flatten_cons, List.flatten_nil, List.append_nil]
    rw [piece_len (by omega) (by omega)]; omega
/-- What a Submit adds: full pieces. -/
theorem sub_at {room : Nat} {cs xs : List Nat} (h1 : 1 ≤ room) (hc : ∀ c ∈ cs, c ≤ xs.length) (ys : List Nat) : ∀ j, fromN room cs xs + j * room ≤ (xs ++ ys).length →
    chunkN room cs (xs ++ ys) (fromN room cs xs + j * room + 1) = (gensN room cs xs ++ fullN room (xs ++ ys) (fromN room cs xs) j, fromN room cs xs + j * room)
  | 0, _ => by
    have hle := from_le (cuts := cs) (xs := xs) h1
    rw [Nat.zero_mul, Nat.add_zero, chunk_behind ys _ (by omega), gens_from h1]
    simp [fullN]
  | j + 1, h => by
    rw [Nat.add_mul, Nat.one_mul, ← Nat.add_assoc] at h ⊢
    have ih := sub_at h1 hc ys j (by omega)
    have := chunk_fill (room := room) (cs := cs) (xs := xs ++ ys) (fromN room cs xs + j * room) (fun c h => by have := cut_le h1 hc c h; omega) h1 _ ih
    rw [this, fullN_succ, List.append_assoc]
theorem sub_gens {room : Nat} {cs xs : List Nat} (h1 : 1 ≤ room) (hc : ∀ c ∈ cs, c ≤ xs.length) (ys : List Nat) (j : Nat) (hj : fromN room cs xs + j * room ≤ (xs ++ ys).length) (hj2 : (xs ++ ys).length < fromN room cs xs + j * room + room) :
    gensN room cs (xs ++ ys) = gensN room cs xs ++ fullN room (xs ++ ys) (fromN room cs xs) j ∧ fromN room cs (xs ++ ys) = fromN room cs xs + j * room := by
  have h := sub_at h1 hc ys j hj
  have hw := chunk_wait (room := room) (cs := cs) (xs := xs ++ ys) (fromN room cs xs + j * room) (fun c h => by have := cut_le h1 hc c h; omega) (fromN room cs xs + j * room + 1) (by omega) (by rw [h]) ((xs ++ ys).length - (fromN room cs xs + j * room)) (by omega)
  rw [show fromN room cs xs + j * room + 1 + ((xs ++ ys).length - (fromN room cs xs + j * room)) = (xs ++ ys).length + 1 by omega, h] at hw
  exact ⟨by rw [gensN, hw], by rw [fromN, hw]⟩
/-- The ends, one by one. -/
theorem sub_ends {room : Nat} {cs xs : List Nat} (h1 : 1 ≤ room) (ys : List Nat) (j : Nat) (hj : fromN room cs xs + j * room + room ≤ (xs ++ ys).length) :
    endsN (gensN room cs xs ++ fullN room (xs ++ ys) (fromN room cs xs) (j + 1)) = endsN (gensN room cs xs ++ fullN room (xs ++ ys) (fromN room cs xs) j) ++ [fromN room cs xs + j * room + room] := by
  rw [fullN_succ, ← List.append_assoc, endsN_more, List.flatten_append, List.length_append, gens_flen h1, fullN_flen j (by omega), piece_len (by omega) (by omega)]
  congr 2
  omega
theorem sub_last {room : Nat} {cs xs : List Nat} (h1 : 1 ≤ room) (ys : List Nat) (j : Nat) (hj : fromN room cs xs + j * room ≤ (xs ++ ys).length) :
    (gensN room cs xs ++ fullN room (xs ++ ys) (fromN room cs xs) j).flatten.length = fromN room cs xs + j * room := by
  rw [List.flatten_append, List.length_append, gens_flen h1, fullN_flen j (by omega)]
/-- How many would be: counted by division. -/
theorem would_div {room : Nat} {cs xs : List Nat} (h1 : 1 ≤ room) (hc : ∀ c ∈ cs, c ≤ xs.length) (ys : List Nat) :
    wouldN room cs (xs ++ ys) = (gensN room cs xs).length + ((openN room cs xs).length + ys.length + room - 1) / room := by
  have hle := from_le (cuts := cs) (xs := xs) h1
  have hl : (xs ++ ys).length = xs.length + ys.length := List.length_append
  have hm := Nat.div_add_mod (xs.length - fromN room cs xs + ys.length) room
  have hmod := Nat.mod_lt (xs.length - fromN room cs xs + ys.length) (show room > 0 by omega)
  obtain ⟨j, hj⟩ : ∃ j, (xs.length - fromN room cs xs + ys.length) / room = j := ⟨_, rfl⟩
  rw [hj, Nat.mul_comm] at hm
  obtain ⟨e1, e2⟩ := sub_gens h1 hc ys j (by omega) (by omega)
  have ho : (openN room cs (xs ++ ys)).length = (xs.length - fromN room cs xs + ys.length) % room := by rw [open_flen, e2]; omega
  rw [wouldN, e1, List.length_append, fullN_len, open_flen, Nat.add_assoc]
  congr 1
  by_cases h0 : openN room cs (xs ++ ys) = []
  · rw [if_pos h0]
    rw [h0] at ho
    have ho : 0 = (xs.length - fromN room cs xs + ys.length) % room := ho
    rw [← hm, ← ho, Nat.add_zero, Nat.add_zero]
    symm
    rw [Nat.div_eq_iff (by omega)]
    omega
  · rw [if_neg h0]
    have h2 : 1 ≤ (openN room cs (xs ++ ys)).length := by
      rcases Nat.eq_zero_or_pos (openN room cs (xs ++ ys)).length with e | e
      · exact absurd (List.eq_nil_of_length_eq_zero e) h0
      · exact e
    rw [← hm]
    symm
    rw [Nat.div_eq_iff (by omega), Nat.add_mul]
    omega
end Go.Proofs.YtgelalbmhllccaaGreat
