/- The landed window: Move. -/
import Derived.Test.YtcalinimooiciaaWc2
namespace Go.Proofs.Ytcalinimooiciaa
open Go.RowKit Go.Shelf
set_option linter.unusedVariables false
set_option linter.unusedSimpArgs false
attribute [local go_sem] Oper.semAt_some
theorem winR_own {β : Type} (g k b : Nat) : Go.Own (fun (_ : β) W => WinR W g k b) := fun s X Y row hs hg hrow =>
  ⟨(hg.block g hs.lt (fun e => by obtain ⟨o, ho, hc⟩ := hrow g e.symm; rw [hs.block] at ho; cases ho; cases hc)).trans hs.block, hs.low, hs.high, hs.top⟩
theorem WinR.not_row {W : World} {g k b base n : Nat} {v : Value} {xs : List Value} (h : WinR W g k b) (hr : W.ownsRow base 23 1 v n xs) : some g ≠ v.ownBlock := by
  rcases hr.2 with ⟨rfl, _⟩ | ⟨q, cap, cur, rfl, _, hgb, _⟩
  · simp [Value.ownBlock]
  · intro e
    obtain rfl : g = q := by simpa [Value.ownBlock] using e
    have := h.block.symm.trans hgb
    simp at this
theorem WinR.appended {W w1 : World} {g k b base n B : Nat} {v u : Value} {xs : List Value} {o : Obj} (h : WinR W g k b) (hr : W.ownsRow base 23 1 v n xs) (hg : (W.alloc o).grownBy w1 v.ownBlock) (hne : g ≠ B) : WinR (w1.setCell ⟨B, 0, none⟩ u) g k b := by
  have h1 : (W.alloc o).heap[g]? = W.heap[g]? := Below.heap_alloc W o g h.lt
  have h2 := hg.block g (by rw [World.size_alloc]; have := h.lt; omega) (h.not_row hr)
  exact ⟨(Below.heap_setCell _ _ _ _ hne).trans (h2.trans (h1.trans h.block)), h.low, h.high, h.top⟩
section
variable {g k b : Nat} {w : World}
theorem move_out (c : Nat) (hc : topN < c) (h : WinR w g k b) :
    Calls Try.prog 9 #[.pointer (some ⟨g, 0, none⟩), .int .u64 (c : Int)] w fun e w' => e = .returned (.tuple #[.slice none 0 0, .int .i64 1]) ∧ w' = w := by
  unfold topN at hc
  have d : (1099511627776 : Int) < (c : Int) := by omega
  go_enter Try.func9, Try.ntmps9
  go_wp2_with fail
  refine (made_any h).mono ?_
  rintro e w1 ⟨rfl, rfl⟩
  go_wp2_with fail
  go_ret2
  exact ⟨rfl, rfl⟩
set_option maxRecDepth 100000 in
set_option maxHeartbeats 4000000 in
theorem move_in (c : Nat) (hc : c ≤ topN) (h : WinR w g k b) :
    Calls Try.prog 9 #[.pointer (some ⟨g, 0, none⟩), .int .u64 (c : Int)] w fun e w' => ∃ A n q, e = .returned (.tuple #[.slice A n q, .int .i64 0]) ∧ OwnU w' w.heap.size A n q (winGone b k c) ∧ WinR w' g k c ∧ Turned (fun x => x = g) w w' := by
  have hc2 := hc
  unfold topN at hc2
  have hbe := h.top
  unfold topN at hbe
  have d : ¬ (1099511627776 : Int) < (c : Int) := by omega
  refine (callsIn_wide (n := 5)).1 ?_
  obtain ⟨i0, hi, hz0, hz1, hz2⟩ := info_parts infoU
  have hk := h.high
  have hN : endN b k - b ≤ 16 := by have := winL_le b k; rw [winL_length] at this; omega
  have c0 := h.c0
  have hlt := h.lt
  refine callsIn_of_wp_marks Try.func9 rfl trivial ?_ rfl
  simp only [Try.ntmps9, List.size_toArray, List.length_cons, List.length_nil, Nat.reduceAdd, Nat.reduceSub, Array.replicate_succ, Array.replicate_zero, List.push_toArray, List.append_toArray, List.nil_append, List.cons_append]
  gi_wp2_with (refine ⟨trivial, ?_⟩; gi_at_call 22; refine (callsIn_wide.2 (made_any h)).mono ?_; rintro e w1 ⟨rfl, rfl⟩)
  obtain ⟨V, hV⟩ : ∃ V, (((w1.alloc (.cells #[.int .i64 (k : Int), .int .u64 (c : Int)] 53)).alloc (.cells #[.pointer (some ⟨w1.heap.size, 0, none⟩)] 24)).alloc (.cells #[.slice none 0 0] 22)) = V := ⟨_, rfl⟩
  have hsz : V.heap.size = w1.heap.size + 3 := by rw [← hV]; simp
  have hK : Keep w1 V := by rw [← hV]; exact (((Keep.refl w1).alloc _ _).alloc _ _).alloc _ _
  have hM : WinR V w1.heap.size k c := by
    have h0 : WinR (w1.alloc (.cells #[.int .i64 (k : Int), .int .u64 (c : Int)] 53)) w1.heap.size k c := ⟨heap_alloc_new _ _, h.low, h.high, hc⟩
    rw [← hV]; exact (h0.keep ((Keep.refl _).alloc _ _)).keep ((Keep.refl _).alloc _ _)
  have hP : Boxed V (w1.heap.size + 1) 24 (.pointer (some ⟨w1.heap.size, 0, none⟩)) := by
    have h0 := Boxed.new (w1.alloc (.cells #[.int .i64 (k : Int), .int .u64 (c : Int)] 53)) 24 (.pointer (some ⟨w1.heap.size, 0, none⟩))
    rw [World.size_alloc] at h0
    rw [← hV]; exact h0.alloc _
  have hO : Boxed V (w1.heap.size + 1 + 1) 22 (.slice none 0 0) := by
    have h0 := Boxed.new ((w1.alloc (.cells #[.int .i64 (k : Int), .int .u64 (c : Int)] 53)).alloc (.cells #[.pointer (some ⟨w1.heap.size, 0, none⟩)] 24)) 22 (.slice none 0 0)
    rw [World.size_alloc, World.size_alloc] at h0
    rw [← hV]; exact h0
  rw [hV]
  clear hV
  refine wpIn_range_method rfl (by omega) (gf := 23) (r := .pointer (some ⟨g, 0, none⟩)) rfl trivial (enters_of Try.func23 (by kernel_rfl) rfl) (numbers_any _ g k b (by omega))
    (fun i W => ((∃ v, Boxed W (w1.heap.size + 1 + 1) 22 v ∧ W.ownsRow w1.heap.size 23 1 v (goneN b k c i).length ((goneN b k c i).map u64) ∧ True) ∧ Boxed W (w1.heap.size + 1) 24 (.pointer (some ⟨w1.heap.size, 0, none⟩)) ∧ WinR W w1.heap.size k c) ∧ Below w1.heap.size w1 W)
    (fun i W hI => h.keep hI.2)
    ?own
    ⟨⟨⟨_, hO, World.ownsRow_nil _ _ _ _, trivial⟩, hP, hM⟩, hK⟩
    (fun i => { tmps := #[.pointer (some ⟨g, 0, none⟩), .int .u64 (c : Int), undef, undef, .slice none 0 0, .int .i64 0, .pointer (some ⟨w1.heap.size + 1, 0, none⟩), .pointer (some ⟨w1.heap.size + 1 + 1, 0, none⟩), .int .u64 ((b : Int) + (i : Int)), .pointer (some ⟨g, 0, none⟩), .bool true, .bool false, .int .u64 (c : Int), .bool (decide (1099511627776 < (c : Int))), .pointer (some ⟨g, 0, none⟩), .pointer (some ⟨g, 0, none⟩), .pointer (some ⟨g, 0, none⟩), .int .i64 (k : Int), .int .u64 (c : Int), .agg #[.int .i64 (k : Int), .int .u64 (c : Int)], .pointer (some ⟨w1.heap.size, 0, none⟩), .pointer (some ⟨g, 0, none⟩), .func (.func 23) #[.pointer (some ⟨g, 0, none⟩)] #[], .int .u64 ((b : Int) + (i : Int)), undef, undef, undef, undef, undef, undef, undef, undef, undef, undef, undef, undef, undef], defers := [] }) ?assign ?body ?done
  case own =>
    refine OwnFrom.and (OwnFrom.and (Own.from (holdsRow_own w1.heap.size (w1.heap.size + 1 + 1) 22 23 1 (fun i => (goneN b k c i).length) (fun i => (goneN b k c i).map u64) (fun _ _ => True)) _) (OwnFrom.and (Own.from (boxed_own _ _ _) _) (Own.from (winR_own _ _ _) _))) (ownFrom_below (Nat.le_refl _) (by omega))
  case assign =>
    intro l i W K hK
    gi_wp2
    exact hK
  case body =>
    rintro l i W ⟨⟨⟨v, hv, hrow, _⟩, hp, hm⟩, hB⟩ hlt hge
    have cv := hv.cell
    have cp := hp.cell
    have hnx : b + i < 18446744073709551616 := by
      have : endN b k ≤ topN := Nat.min_le_right _ _
      unfold topN at this
      omega
    have hin := in_any (b + i) hnx hm
    rw [Int.natCast_add] at hin
    have hgl := goneN_le b k c i
    cases hi2 : winIn c k (b + i) with
    | true =>
      rw [hi2] at hin
      gi_wp2_with (refine ⟨trivial, ?_⟩; gi_at_call 13; refine (CallsIn.inRound l (callsIn_wide.2 hin)).mono ?_; rintro e w2 ⟨rfl, rfl⟩)
      exact ⟨KeepsFrom.refl _ _, v, hv, by rw [goneN_in _ _ _ _ hi2]; exact hrow⟩
    | false =>
      rw [hi2] at hin
      gi_wp2_with first
        | (refine ⟨trivial, ?_⟩; gi_at_call 13; refine (CallsIn.inRound l (callsIn_wide.2 hin)).mono ?_; rintro e w2 ⟨rfl, rfl⟩)
        | (gi_at_builtin; refine wpListIn_append_own _ rfl _ _ 22 rfl w1.heap.size 23 i0 (.int .u64 0) 1 8 Try.underlying22 hi hz0 hz1 hz2 rfl (by decide) _ _ _ rfl (hrow.alloc _) ⟨w2.heap.size, 0, none⟩ 1 1 [.int .u64 ((b : Int) + (i : Int))] rfl rfl (cell_one_new _ _ _) (by simp [Value.oneCell']) (by unfold maxLen; omega) (by omega) (by have := hB.size; simp; omega) ?_; intro v' w3 hown' hgrow _; obtain ⟨g', cap', rfl⟩ := ownsRow_succ hown'; obtain ⟨hv1, hv2, hr2, hk2, hb2⟩ := hv.appended (by decide) hrow hB.size (by omega) hown' hgrow; have hc1 := hv1.cell; have hf1 := hv1.frozen)
      have hpk : Boxed (w3.setCell ⟨w1.heap.size + 1 + 1, 0, none⟩ (.slice (some ⟨g', 0, none⟩) ((goneN b k c i).length + 1) cap')) (w1.heap.size + 1) 24 (.pointer (some ⟨w1.heap.size, 0, none⟩)) :=
        Boxed.other ((hp.alloc _).kept hgrow (hp.not_row (by decide) hrow)) (by omega) _
      have hmk : WinR (w3.setCell ⟨w1.heap.size + 1 + 1, 0, none⟩ (.slice (some ⟨g', 0, none⟩) ((goneN b k c i).length + 1) cap')) w1.heap.size k c := hm.appended hrow hgrow (by omega)
      exact ⟨hk2.from _, ⟨⟨_, hv2, by rw [u64_gone _ _ _ _ hi2, goneN_out _ _ _ _ hi2, List.length_append]; exact hr2⟩, hpk, hmk⟩, hB.trans hb2⟩
  case done =>
    rintro D W hD ⟨⟨⟨v, hv, hrow, _⟩, hp, hm⟩, hB⟩ hK
    obtain ⟨A, q, rfl, hown⟩ := owns_u hrow
    have cv := hv.cell
    have hw := h.keep hB
    have cf := hw.free
    have cg := hw.c1
    have hne : g ≠ w1.heap.size + 1 + 1 := by omega
    have ht : Turned (fun x => x = g) W (W.setCell ⟨g, 1, none⟩ (.int .u64 (c : Int))) := Turned.set (F := fun x => x = g) _ _ _ rfl
    have cv2 : (W.setCell ⟨g, 1, none⟩ (.int .u64 (c : Int))).cell? ⟨w1.heap.size + 1 + 1, 0, none⟩ = some (.slice A (goneN b k c (endN b k - b)).length q) := ht.cell cv (show ¬ (w1.heap.size + 1 + 1 = g) by omega)
    gi_wp2
    refine ⟨by simp, .inl ⟨_, _, rfl, run_takeDeferred (ht.block D (Array.getElem?_eq_some_iff.1 hK).1 (show ¬ (D = g) by omega) |>.trans hK), ?_⟩⟩
    have hz : (W.setCell ⟨g, 1, none⟩ (.int .u64 (c : Int))).heap.size = W.heap.size := by simp [World.setCell]
    have hDl := (Array.getElem?_eq_some_iff.1 hK).1
    have hKs : (W.setCell ⟨g, 1, none⟩ (.int .u64 (c : Int))).heap[D]? = some (.deferred (some [])) := (ht.block D hDl (show ¬ (D = g) by omega)).trans hK
    have tw : Turned (fun x => x = g) w1 ((W.setCell ⟨g, 1, none⟩ (.int .u64 (c : Int))).putObj D (.deferred none)) := by
      refine ((Turned.of_keep (F := fun x => x = g) hB).trans ht fun i e => Or.inl e).trans (Turned.of_grown (F := fun x => x = D) (grownBy_putObj' _ D (.deferred none)) fun i e => by cases e; rfl) fun i e => Or.inr ?_
      have e : i = D := e
      omega
    have ho : OwnU (W.setCell ⟨g, 1, none⟩ (.int .u64 (c : Int))) w1.heap.size A _ q (goneN b k c (endN b k - b)) := ht.owns hown fun x hx e => by
      have := hown.rowLe x hx
      omega
    have hm2 := hw.moved hc
    exact ⟨_, results_tmp2 rfl _ _ _, A, _, q, rfl, ownsRow_putObj ho _ hKs rfl, ⟨(World.putObj_heap_other (by omega)).trans hm2.block, hm2.low, hm2.high, hm2.top⟩, tw⟩
end
end Go.Proofs.Ytcalinimooiciaa
