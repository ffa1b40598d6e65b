/- The document's own window. -/
import Derived.Test.YtcalinimooiciaaWinp
import Derived.Test.YtcalinimooiciaaWmem
import Derived.Test.YtcalinimooiciaaMine
namespace Go.Proofs.Ytcalinimooiciaa
open Go.RowKit
set_option linter.unusedVariables false
set_option linter.unusedSimpArgs false
/-- The document's window of width k and base b in block g. -/
structure RefW (w : World) (g k b : Nat) : Prop where
  block : w.heap[g]? = some (.cells #[.int .u64 (b : Int), .int .i64 (k : Int)] 46 (0, 0))
  low : 1 ≤ k
  high : k ≤ 16
  top : b ≤ topN
namespace RefW
variable {w w' : World} {g k b : Nat}
theorem lt (h : RefW w g k b) : g < w.heap.size := (Array.getElem?_eq_some_iff.1 h.block).1
theorem c0 (h : RefW w g k b) : w.cell? ⟨g, 0, none⟩ = some (.int .u64 (b : Int)) := by simp [World.cell?, h.block]
theorem c1 (h : RefW w g k b) : w.cell? ⟨g, 1, none⟩ = some (.int .i64 (k : Int)) := by simp [World.cell?, h.block]
theorem free (h : RefW w g k b) : w.frozen? ⟨g, 0, none⟩ = false := by simp [World.frozen?, h.block]
theorem turned {G : Nat → Prop} (h : RefW w g k b) (t : Turned G w w') (hn : ¬ G g) : RefW w' g k b := ⟨(t.block g h.lt hn).trans h.block, h.low, h.high, h.top⟩
theorem keep (h : RefW w g k b) (t : Keep w w') : RefW w' g k b := ⟨(t.block g h.lt).trans h.block, h.low, h.high, h.top⟩
theorem moved (h : RefW w g k b) {c : Nat} (hc : c ≤ topN) : RefW (w.setCell ⟨g, 0, none⟩ (.int .u64 (c : Int))) g k c :=
  ⟨by simp [World.setCell, Array.getElem?_modify, h.block], h.low, h.high, hc⟩
end RefW
theorem rnew_out (k : Int) (h : k < 1 ∨ 16 < k) (w : World) : Calls Try.prog 6 #[.int .i64 k] w fun e w' => e = .returned (.tuple #[.pointer none, .int .i64 1]) ∧ w' = w := by
  by_cases h1 : k < 1
  · have b1 : decide (k < 1) = true := decide_eq_true h1
    clear h
    go_enter Try.func6, Try.ntmps6
    go_wp2_with fail
    go_ret2
    exact ⟨rfl, rfl⟩
  · have h2 : 16 < k := by omega
    have b1 : decide (k < 1) = false := decide_eq_false h1
    clear h
    go_enter Try.func6, Try.ntmps6
    go_wp2_with fail
    go_ret2
    exact ⟨rfl, rfl⟩
theorem rnew_in (k : Nat) (h1 : 1 ≤ k) (h2 : k ≤ 16) (w : World) : Calls Try.prog 6 #[.int .i64 (k : Int)] w fun e w' => e = .returned (.tuple #[.pointer (some ⟨w.heap.size, 0, none⟩), .int .i64 0]) ∧ RefW w' w.heap.size k 0 ∧ Keep w w' := by
  have b1 : decide ((k : Int) < 1) = false := decide_eq_false (by omega)
  have b2 : ¬ (16 : Int) < (k : Int) := by omega
  go_enter Try.func6, Try.ntmps6
  go_wp2_with fail
  go_ret2
  exact ⟨rfl, ⟨heap_alloc_new _ _, h1, h2, Nat.zero_le _⟩, (Keep.refl w).alloc _ _⟩
theorem u64_winL (b i : Nat) (h : b + i < topN) : (winL b (i + 1)).map u64 = (winL b i).map u64 ++ [Value.int .u64 ((b : Int) + (i : Int))] := by
  rw [winL_succ _ _ h, List.map_append]; rfl
section
variable {g k b : Nat} {w : World}
set_option maxRecDepth 100000 in
set_option maxHeartbeats 1000000 in
/-- Its All. -/
theorem rall_any (h : RefW w g k b) :
    Calls Try.prog 21 #[.pointer (some ⟨g, 0, none⟩)] w fun e w' => ∃ A n c, e = .returned (.slice A n c) ∧ OwnU w' w.heap.size A n c (winL b k) ∧ Keep w w' := by
  have hk := h.high
  have hb := h.top
  unfold topN at hb
  go_enter Try.func21, Try.ntmps21
  go_wp2_with fail
  go_loopw [3, 4] (fun v i wr => ∃ (j n c : Nat) (A : Option Addr), j ≤ k ∧ i = .int .i64 j ∧ v = .slice A n c ∧ OwnU wr w.heap.size A n c (winL b j) ∧ Keep w wr) (fun v i _ => k - (intOf i).toNat)
  case atStart => exact ⟨0, 0, 0, none, Nat.zero_le _, rfl, rfl, by rw [winL_none]; exact OwnU.none_ _ _, Keep.refl w⟩
  case round =>
    obtain ⟨j, n, c, A, hj, rfl, rfl, ho, hkw⟩ := hrel
    have hw := h.keep hkw
    have c0 := hw.c0
    have c1 := hw.c1
    have hl : n ≤ 16 := by
      have := winL_le b j
      rw [ho.length] at this
      omega
    have hs := hkw.size
    by_cases hlt : j < k
    · have d1 : (j : Int) < (k : Int) := by omega
      have e1 : IntKind.u64.wrap (j : Int) = (j : Int) := IntWalk.u64_in _ (by omega)
      have e2 : IntKind.u64.wrap ((b : Int) + (j : Int)) = (b : Int) + (j : Int) := IntWalk.u64_in _ (by omega)
      by_cases hin : b + j < topN
      · have d2 : (b : Int) + (j : Int) < 1099511627776 := by unfold topN at hin; omega
        go_wp2_with (at_builtin; refine wpList_append_u rfl _ _ 22 rfl Try.underlying22 infoU rfl (ho.alloc _) rfl (by rw [World.cell?_alloc_new]; rfl) (by omega) (by simp; omega) ?_)
        intro A2 c2 w2 h2 hg2
        have k2 : Keep w w2 := (hkw.alloc _ _).grown hg2 ho.rowLe
        go_wp2_with fail
        go_roundw
        case rel => exact ⟨j + 1, n + 1, c2, A2, by omega, by go_num, rfl, by unfold OwnU; rw [u64_winL _ _ hin]; exact h2, k2⟩
        case measure => simp [intOf]; omega
      · have d2 : ¬ (b : Int) + (j : Int) < 1099511627776 := by unfold topN at hin; omega
        go_wp2_with fail
        go_roundw
        case rel => exact ⟨j + 1, n, c, A, by omega, by go_num, rfl, by rw [winL_more _ _ hin]; exact ho, hkw⟩
        case measure => simp [intOf]; omega
    · have d1 : ¬ (j : Int) < (k : Int) := by omega
      obtain rfl : j = k := by omega
      go_wp2_with fail
      go_ret
      exact ⟨A, n, c, rfl, ho, hkw⟩
end
end Go.Proofs.Ytcalinimooiciaa
