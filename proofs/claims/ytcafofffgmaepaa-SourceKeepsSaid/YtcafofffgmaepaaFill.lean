/- A slice made and filled by copy. -/
import Derived.Test.YtcafofffgmaepaaNew
import Derived.Laws.CopyOwn
namespace Go.Proofs.Ytcafofffgmaepaa
open Go.RowKit
/-- A row made and filled. -/
def fillN (xs : List Nat) (n : Nat) : List Nat := xs.take n ++ List.replicate (n - xs.length) 0
theorem fillN_len (xs : List Nat) (n : Nat) : (fillN xs n).length = n := by simp [fillN]; omega
theorem fillN_all {xs : List Nat} (h : AllB xs) (n : Nat) : AllB (fillN xs n) := (h.take n).append (AllB.zeros _)
theorem run_copy_fill {P : Program} {w : World} {B m n c ty t e : Nat} {A : Option Addr} {xs : List Nat} (ht : P.underlying t = some (.slice e)) (hs : (P.info? e).map (·.size) = some 1) (h : Bytes w B A m xs) (hB : B ≤ w.heap.size) (hn : n ≤ 140737488355328) :
    ∃ w' v, (Builtin.copy_ #[t, t] ty #[.slice (some ⟨w.heap.size, 0, none⟩) n n, .slice A m c]).run P (w.alloc (.cells (madeCells #[.int .u8 0] n) e)) = .ok v w' ∧ Own w' w.heap.size e (some ⟨w.heap.size, 0, none⟩) n n (fillN xs n) ∧ Keep w w' := by
  have ha := heap_alloc_new w (.cells (madeCells #[.int .u8 0] n) e)
  have hz : (madeCells #[Value.int .u8 0] n).toList = u8s (List.replicate n 0) := by rw [toList_madeCells_one, u8s_zeros]
  by_cases h0 : min m n = 0
  · have hf : fillN xs n = List.replicate n 0 := by
      have := h.length
      rcases (show m = 0 ∨ n = 0 by omega) with e | e
      · rw [fillN, List.eq_nil_of_length_eq_zero (this.trans e)]; simp
      · rw [fillN, e]; simp
    exact ⟨_, _, run_copy_none _ t t ty e _ A n n m c ht hs h0, hf ▸ Own.made w e n hn, (Keep.refl w).alloc _ _⟩
  · obtain ⟨b, off, rfl, _, _⟩ := h.2.2 (by omega)
    have hl : (u8s (xs.take n)).length = min m n := by rw [u8s_length, List.length_take, h.length]; omega
    have hr := run_copy_row (P := P) (w.alloc (.cells (madeCells #[.int .u8 0] n) e)) t t ty e w.heap.size 0 n n ⟨b, off, none⟩ m c (madeCells #[.int .u8 0] n) e (u8s (xs.take n)) ht hs ha hl (fun j v hv => (h.alloc hB _).cells (by omega) j v (by
      rw [u8s_get] at hv ⊢
      rw [List.getElem?_take] at hv
      split at hv
      · exact hv
      · cases hv)) (by rw [size_madeCells, hl]; simp; omega) (u8s_one _)
    refine ⟨_, _, hr, ?_, ((Keep.refl w).alloc _ _).setRow (Nat.le_refl _) ha⟩
    have hc : ((madeCells #[Value.int .u8 0] n).toList.take 0 ++ u8s (xs.take n) ++ (madeCells #[Value.int .u8 0] n).toList.drop (0 + (u8s (xs.take n)).length)) = u8s (fillN xs n) := by
      rw [List.take_zero, List.nil_append, hz, fillN, u8s_append, hl]
      congr 1
      simp only [u8s, List.map_replicate, List.drop_replicate]
      congr 1
      have := h.length
      omega
    refine ⟨⟨by rw [u8s_length, fillN_len]; simp, Or.inr ⟨w.heap.size, n, _, rfl, Nat.le_refl _, by rw [setRow_heap _ _ _ _ _ _ ha, hc], Nat.le_refl _, by unfold maxLen; omega, by simp [u8s_length, fillN_len], ?_⟩⟩, fillN_all h.all n⟩
    rw [List.toList_toArray, List.take_of_length_le (by rw [u8s_length, fillN_len]; simp)]
end Go.Proofs.Ytcafofffgmaepaa
