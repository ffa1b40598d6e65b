/- The landed window: its numbers handed out, listed, moved. -/
import Derived.Test.YtcalinimooiciaaWc1
import Derived.Test.YtcalinimooiciaaWrf
namespace Go.Proofs.Ytcalinimooiciaa
open Go.RowKit Go.Shelf
set_option linter.unusedVariables false
set_option linter.unusedSimpArgs false
attribute [local go_sem] Oper.semAt_some
set_option maxRecDepth 100000 in
set_option maxHeartbeats 1000000 in
/-- Numbers hands out what is in. -/
theorem numbers_any (n g k b : Nat) (hn : 1 ≤ n) : Hands Fence.wide n Try.prog 23 (.pointer (some ⟨g, 0, none⟩)) (fun i => .int .u64 ((b : Int) + (i : Int))) (fun W => WinR W g k b) (endN b k - b) := by
  intro l J W hQ hY h0
  have hw := hQ _ _ h0
  have hend : endN b k ≤ topN := Nat.min_le_right _ _
  have hbe : b ≤ topN := hw.top
  unfold topN at hend hbe
  refine callsIn_of_wp Try.func23 rfl trivial ?_ rfl
  simp only [Try.ntmps23, List.size_toArray, List.length_cons, List.length_nil, Nat.reduceAdd, Nat.reduceSub, Array.replicate_succ, Array.replicate_zero, List.push_toArray, List.append_toArray, List.nil_append, List.cons_append]
  gi_wp2_with (refine ⟨trivial, ?_⟩; gi_at_call 16; refine (callsIn_wide.2 (base_any hw)).mono ?_; rintro e w1 ⟨rfl, rfl⟩)
  gi_loopw [4] (fun p wr => ∃ i : Nat, i ≤ endN b k - b ∧ p = .int .u64 ((b : Int) + (i : Int)) ∧ J i wr) (fun p wr => endN b k - (intOf p).toNat)
  case atStart => exact ⟨0, Nat.zero_le _, by simp, h0⟩
  case round =>
    obtain ⟨i, hi, rfl, hJ⟩ := hrel
    have hwr := hQ _ _ hJ
    by_cases hlt : i < endN b k - b
    · have d : decide ((b : Int) + (i : Int) < (endN b k : Int)) = true := decide_eq_true (by omega)
      have d0 : (b : Int) + (i : Int) < (endN b k : Int) := by omega
      have e1 : IntKind.u64.wrap ((b : Int) + (i : Int) + 1) = (b : Int) + (i : Int) + 1 := IntWalk.u64_in _ (by omega)
      obtain ⟨fn, tmps, assign, body, hy, hR⟩ := hY i wr hJ hlt
      gi_wp2_with (refine ⟨trivial, ?_⟩; gi_at_call 17; refine (callsIn_wide.2 (end_any hwr)).mono ?_; rintro e w1 ⟨rfl, rfl⟩)
      refine hR.mono ?_
      rintro e W3 ⟨rfl, hJ3⟩
      gi_wp2
      go_roundw
      case rel => exact ⟨i + 1, by omega, by rw [Int.natCast_add]; simp [Int.add_assoc], hJ3⟩
      case measure => simp only [intOf]; omega
    · have d0 : ¬ (b : Int) + (i : Int) < (endN b k : Int) := by omega
      gi_wp2_with (refine ⟨trivial, ?_⟩; gi_at_call 17; refine (callsIn_wide.2 (end_any hwr)).mono ?_; rintro e w1 ⟨rfl, rfl⟩)
      go_end0
      obtain rfl : i = endN b k - b := by omega
      exact ⟨⟨_, rfl⟩, hJ⟩
theorem u64_first (b i : Nat) : (List.range' b (i + 1)).map u64 = (List.range' b i).map u64 ++ [Value.int .u64 ((b : Int) + (i : Int))] := by
  rw [first_succ, List.map_append]; rfl
theorem u64_gone (b k c i : Nat) (h : winIn c k (b + i) = false) : (goneN b k c (i + 1)).map u64 = (goneN b k c i).map u64 ++ [Value.int .u64 ((b : Int) + (i : Int))] := by
  rw [goneN_out _ _ _ _ h, List.map_append]; rfl
theorem owns_u {w : World} {base n : Nat} {v : Value} {l : List Nat} (h : w.ownsRow base 23 1 v n (l.map u64)) : ∃ A c, v = .slice A n c ∧ OwnU w base A n c l := by
  obtain ⟨A, c, rfl⟩ := own_shape h
  exact ⟨A, c, rfl, h⟩
set_option maxRecDepth 100000 in
set_option maxHeartbeats 2000000 in
/-- All. -/
theorem all_any (g k b : Nat) (w : World) (h : WinR w g k b) :
    Calls Try.prog 20 #[.pointer (some ⟨g, 0, none⟩)] w fun e w' => ∃ A n c, e = .returned (.slice A n c) ∧ OwnU w' w.heap.size A n c (winL b k) ∧ Keep w w' := by
  refine (callsIn_wide (n := 5)).1 ?_
  obtain ⟨i0, hi, hz0, hz1, hz2⟩ := info_parts infoU
  have hk := h.high
  have hN : endN b k - b ≤ 16 := by have := winL_le b k; rw [winL_length] at this; omega
  refine callsIn_of_wp_marks Try.func20 rfl trivial ?_ rfl
  simp only [Try.ntmps20, List.size_toArray, List.length_cons, List.length_nil, Nat.reduceAdd, Nat.reduceSub, Array.replicate_succ, Array.replicate_zero, List.push_toArray, List.append_toArray, List.nil_append, List.cons_append]
  gi_wp2
  have bO := Boxed.new w 22 (.slice none 0 0)
  have hB0 : Below w.heap.size w (w.alloc (.cells #[.slice none 0 0] 22)) := (Below.refl _ w).alloc (Nat.le_refl _) _
  refine wpIn_range_method rfl (by omega) (gf := 23) (r := .pointer (some ⟨g, 0, none⟩)) rfl trivial (enters_of Try.func23 (by kernel_rfl) rfl) (numbers_any _ g k b (by omega))
    (fun i W => (∃ v, Boxed W w.heap.size 22 v ∧ W.ownsRow w.heap.size 23 1 v i ((List.range' b i).map u64) ∧ True) ∧ Below w.heap.size w W)
    (fun i W hI => h.keep hI.2)
    ?own
    ⟨⟨_, bO, World.ownsRow_nil _ _ _ _, trivial⟩, hB0⟩
    (fun i => { tmps := #[.pointer (some ⟨g, 0, none⟩), undef, .slice none 0 0, .pointer (some ⟨w.heap.size, 0, none⟩), .int .u64 ((b : Int) + (i : Int)), .pointer (some ⟨g, 0, none⟩), .func (.func 23) #[.pointer (some ⟨g, 0, none⟩)] #[], .int .u64 ((b : Int) + (i : Int)), undef, undef, undef, undef, undef], defers := [] }) ?assign ?body ?done
  case own => exact OwnFrom.and (Own.from (holdsRow_own w.heap.size w.heap.size 22 23 1 (fun i => i) (fun i => (List.range' b i).map u64) (fun _ _ => True)) _) (ownFrom_below (Nat.le_refl _) (by simp))
  case assign =>
    intro l i W K hK
    gi_wp2
    exact hK
  case body =>
    rintro l i W ⟨⟨v, hv, hrow, _⟩, hB⟩ hlt hge
    have hc := hv.cell
    gi_wp2_with (gi_at_builtin; refine wpListIn_append_own _ rfl _ _ 22 rfl w.heap.size 23 i0 (.int .u64 0) 1 8 Try.underlying22 hi hz0 hz1 hz2 rfl (by decide) _ _ _ rfl (hrow.alloc _) ⟨W.heap.size, 0, none⟩ 1 1 [.int .u64 ((b : Int) + (i : Int))] rfl rfl (cell_one_new _ _ _) (by simp [Value.oneCell']) (by unfold maxLen; omega) (by omega) (by have := hB.size; simp; omega) ?_; intro v' w1 hown' hgrow _; obtain ⟨g', cap', rfl⟩ := ownsRow_succ hown'; obtain ⟨hv1, hv2, hr2, hk2, hb2⟩ := hv.appended (by decide) hrow hB.size (Nat.le_refl _) hown' hgrow; have hc1 := hv1.cell; have hf1 := hv1.frozen)
    exact ⟨hk2.from _, ⟨_, hv2, by rw [u64_first]; exact hr2⟩, hB.trans hb2⟩
  case done =>
    rintro D W hD ⟨⟨v, hv, hrow, _⟩, hB⟩ hK
    obtain ⟨A, c, rfl, hown⟩ := owns_u hrow
    have hc := hv.cell
    gi_wp2
    refine ⟨by simp, .inl ⟨_, _, rfl, run_takeDeferred hK, ?_⟩⟩
    exact ⟨_, results_tmp rfl _ _ _, A, _, c, rfl, ownsRow_putObj hrow _ hK rfl, hB.trans (belowK_b (w := w) (Nat.le_refl _) W D _ _ (by simp at hD; omega) hK rfl rfl)⟩
end Go.Proofs.Ytcalinimooiciaa
