/- The landed window: how it lies, and its functions that make no list. -/
import Derived.Test.YtcalinimooiciaaWinp
import Derived.Test.YtcalinimooiciaaWmem
import Derived.Test.YtcalinimooiciaaMine
namespace Go.Proofs.Ytcalinimooiciaa
open Go.RowKit
set_option linter.unusedVariables false
set_option linter.unusedSimpArgs false
/-- A window of width k and base b in block g. -/
structure WinR (w : World) (g k b : Nat) : Prop where
  block : w.heap[g]? = some (.cells #[.int .i64 (k : Int), .int .u64 (b : Int)] 53 (0, 0))
  low : 1 ≤ k
  high : k ≤ 16
  top : b ≤ topN
namespace WinR
variable {w w' : World} {g k b : Nat}
theorem lt (h : WinR w g k b) : g < w.heap.size := (Array.getElem?_eq_some_iff.1 h.block).1
theorem c0 (h : WinR w g k b) : w.cell? ⟨g, 0, none⟩ = some (.int .i64 (k : Int)) := by simp [World.cell?, h.block]
theorem c1 (h : WinR w g k b) : w.cell? ⟨g, 1, none⟩ = some (.int .u64 (b : Int)) := by simp [World.cell?, h.block]
theorem free (h : WinR w g k b) : w.frozen? ⟨g, 1, none⟩ = false := by simp [World.frozen?, h.block]
theorem turned {G : Nat → Prop} (h : WinR w g k b) (t : Turned G w w') (hn : ¬ G g) : WinR w' g k b := ⟨(t.block g h.lt hn).trans h.block, h.low, h.high, h.top⟩
theorem keep (h : WinR w g k b) (t : Keep w w') : WinR w' g k b := ⟨(t.block g h.lt).trans h.block, h.low, h.high, h.top⟩
theorem moved (h : WinR w g k b) {c : Nat} (hc : c ≤ topN) : WinR (w.setCell ⟨g, 1, none⟩ (.int .u64 (c : Int))) g k c :=
  ⟨by simp [World.setCell, Array.getElem?_modify, h.block], h.low, h.high, hc⟩
end WinR
section
variable {g k b : Nat} {w : World}
theorem made_any (h : WinR w g k b) : Calls Try.prog 22 #[.pointer (some ⟨g, 0, none⟩)] w fun e w' => e = .returned (.bool true) ∧ w' = w := by
  have c0 := h.c0
  have hk := h.low
  have d : decide (0 < k) = true := decide_eq_true (by omega)
  clear h hk
  go_enter Try.func22, Try.ntmps22
  go_wp2_with fail
  go_ret
  exact ⟨rfl, rfl⟩
theorem base_any (h : WinR w g k b) : Calls Try.prog 16 #[.pointer (some ⟨g, 0, none⟩)] w fun e w' => e = .returned (.int .u64 (b : Int)) ∧ w' = w := by
  have c1 := h.c1
  go_enter Try.func16, Try.ntmps16
  go_wp2_with fail
  refine (made_any h).mono ?_
  rintro e w1 ⟨rfl, rfl⟩
  go_wp2_with fail
  go_ret
  exact ⟨rfl, rfl⟩
theorem width_any (h : WinR w g k b) : Calls Try.prog 19 #[.pointer (some ⟨g, 0, none⟩)] w fun e w' => e = .returned (.int .i64 (k : Int)) ∧ w' = w := by
  have c0 := h.c0
  go_enter Try.func19, Try.ntmps19
  go_wp2_with fail
  refine (made_any h).mono ?_
  rintro e w1 ⟨rfl, rfl⟩
  go_wp2_with fail
  go_ret
  exact ⟨rfl, rfl⟩
theorem end_any (h : WinR w g k b) : Calls Try.prog 17 #[.pointer (some ⟨g, 0, none⟩)] w fun e w' => e = .returned (.int .u64 (endN b k : Int)) ∧ w' = w := by
  have hk := h.high
  have hb := h.top
  unfold topN at hb
  have e1 : IntKind.u64.wrap (k : Int) = (k : Int) := IntWalk.u64_in _ (by omega)
  have e2 : IntKind.u64.wrap ((b : Int) + (k : Int)) = ((b + k : Nat) : Int) := by rw [IntWalk.u64_in _ (by omega)]; omega
  go_enter Try.func17, Try.ntmps17
  go_wp2_with fail
  refine (base_any h).mono ?_
  rintro e w1 ⟨rfl, rfl⟩
  go_wp2_with fail
  refine (width_any h).mono ?_
  rintro e w1 ⟨rfl, rfl⟩
  go_wp2_with fail
  all_goals go_ret
  · rename_i h1
    exact ⟨by rw [show endN b k = topN by unfold endN topN; omega]; rfl, rfl⟩
  · rename_i h1
    exact ⟨by rw [show endN b k = b + k by unfold endN topN; omega]; rfl, rfl⟩
/-- In. -/
theorem in_any (n : Nat) (hn : n < 18446744073709551616) (h : WinR w g k b) : Calls Try.prog 13 #[.pointer (some ⟨g, 0, none⟩), .int .u64 (n : Int)] w fun e w' => e = .returned (.bool (winIn b k n)) ∧ w' = w := by
  by_cases h1 : b ≤ n
  · have d1 : decide ((b : Int) ≤ (n : Int)) = true := decide_eq_true (by omega)
    go_enter Try.func13, Try.ntmps13
    go_wp2_with fail
    refine (base_any h).mono ?_
    rintro e w1 ⟨rfl, rfl⟩
    go_wp2_with fail
    refine (end_any h).mono ?_
    rintro e w1 ⟨rfl, rfl⟩
    go_wp2_with fail
    go_ret
    exact ⟨by rw [winIn, decide_eq_true h1, Bool.true_and]; rfl, rfl⟩
  · have d1 : decide ((b : Int) ≤ (n : Int)) = false := decide_eq_false (by omega)
    go_enter Try.func13, Try.ntmps13
    go_wp2_with fail
    refine (base_any h).mono ?_
    rintro e w1 ⟨rfl, rfl⟩
    go_wp2_with fail
    go_ret
    exact ⟨by rw [winIn, decide_eq_false h1, Bool.false_and]; rfl, rfl⟩
/-- Slot. -/
def slotV (b k n : Nat) : Nat := if winIn b k n then n % k else 0
def slotE (b k n : Nat) : Int := if winIn b k n then 0 else 1
theorem slot_any (n : Nat) (hn : n < 18446744073709551616) (h : WinR w g k b) : Calls Try.prog 11 #[.pointer (some ⟨g, 0, none⟩), .int .u64 (n : Int)] w fun e w' => e = .returned (.tuple #[.int .i64 (slotV b k n : Int), .int .i64 (slotE b k n)]) ∧ w' = w := by
  have hk := h.high
  have hl := h.low
  have c0 := h.c0
  cases hi : winIn b k n with
  | true =>
    have hm : n % k < k := Nat.mod_lt _ (by omega)
    have e1 : IntKind.u64.wrap (k : Int) = (k : Int) := IntWalk.u64_in _ (by omega)
    have e2 : (n : Int).tmod (k : Int) = ((n % k : Nat) : Int) := by rw [Int.tmod_eq_emod_of_nonneg (by omega)]; rfl
    have e3 : IntKind.u64.wrap ((n % k : Nat) : Int) = ((n % k : Nat) : Int) := IntWalk.u64_in _ (by omega)
    have e4 : IntKind.i64.wrap ((n % k : Nat) : Int) = ((n % k : Nat) : Int) := IntWalk.i64_in _ (by omega)
    have e5 : (k : Int) ≠ 0 := by omega
    go_enter Try.func11, Try.ntmps11
    go_wp2_with fail
    refine (made_any h).mono ?_
    rintro e w1 ⟨rfl, rfl⟩
    go_wp2_with fail
    refine (in_any n hn h).mono ?_
    rw [hi]
    rintro e w1 ⟨rfl, rfl⟩
    go_wp2_with fail
    go_ret2
    exact ⟨by rw [slotV, slotE, hi]; rfl, rfl⟩
  | false =>
    go_enter Try.func11, Try.ntmps11
    go_wp2_with fail
    refine (made_any h).mono ?_
    rintro e w1 ⟨rfl, rfl⟩
    go_wp2_with fail
    refine (in_any n hn h).mono ?_
    rw [hi]
    rintro e w1 ⟨rfl, rfl⟩
    go_wp2_with fail
    go_ret2
    exact ⟨by rw [slotV, slotE, hi]; rfl, rfl⟩
theorem copy_any (h : WinR w g k b) : Calls Try.prog 8 #[.pointer (some ⟨g, 0, none⟩)] w fun e w' => e = .returned (.pointer (some ⟨w.heap.size, 0, none⟩)) ∧ WinR w' w.heap.size k b ∧ Keep w w' := by
  have c0 := h.c0
  have c1 := h.c1
  go_enter Try.func8, Try.ntmps8
  go_wp2_with fail
  refine (made_any h).mono ?_
  rintro e w1 ⟨rfl, rfl⟩
  go_wp2_with fail
  go_region
  go_wp2_with fail
  go_ret
  exact ⟨rfl, ⟨heap_alloc_new _ _, h.low, h.high, h.top⟩, ((Keep.refl _).alloc _ _).drew⟩
theorem new_out (k : Int) (h : k < 1 ∨ 16 < k) (w : World) : Calls Try.prog 5 #[.int .i64 k] w fun e w' => e = .returned (.tuple #[.pointer none, .int .i64 1]) ∧ w' = w := by
  by_cases h1 : k < 1
  · have b1 : decide (k < 1) = true := decide_eq_true h1
    clear h
    go_enter Try.func5, Try.ntmps5
    go_wp2_with fail
    go_ret2
    exact ⟨rfl, rfl⟩
  · have h2 : 16 < k := by omega
    have b1 : decide (k < 1) = false := decide_eq_false h1
    clear h
    go_enter Try.func5, Try.ntmps5
    go_wp2_with fail
    go_ret2
    exact ⟨rfl, rfl⟩
theorem new_in (k : Nat) (h1 : 1 ≤ k) (h2 : k ≤ 16) (w : World) : Calls Try.prog 5 #[.int .i64 (k : Int)] w fun e w' => e = .returned (.tuple #[.pointer (some ⟨w.heap.size, 0, none⟩), .int .i64 0]) ∧ WinR w' w.heap.size k 0 ∧ Keep w w' := by
  have b1 : decide ((k : Int) < 1) = false := decide_eq_false (by omega)
  have b2 : ¬ (16 : Int) < (k : Int) := by omega
  go_enter Try.func5, Try.ntmps5
  go_wp2_with fail
  go_ret2
  exact ⟨rfl, ⟨heap_alloc_new _ _, h1, h2, Nat.zero_le _⟩, (Keep.refl w).alloc _ _⟩
end
end Go.Proofs.Ytcalinimooiciaa
