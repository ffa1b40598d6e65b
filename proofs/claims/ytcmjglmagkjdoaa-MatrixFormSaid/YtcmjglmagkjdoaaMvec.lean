/- Matrices and rows side by side; the landed vector code's contracts in those words. -/
import Derived.Test.YtcmjglmagkjdoaaMsz
import Derived.Test.YtcmjglmagkjdoaaVA
import Derived.Laws.CopyOwn
namespace Go.Proofs.Ytcmjglmagkjdoaa
open Go.RowKit
set_option linter.unusedVariables false
set_option linter.unusedSimpArgs false
/-- Matrices, rows, and what was there has not turned. -/
structure Sr (W w : World) (l : List MV) (rs : List RowV) : Prop where
  st : St W w l
  rows : ∀ r ∈ rs, Bytes w w.heap.size r.A r.n r.xs
namespace Sr
variable {W w w' : World} {l : List MV} {rs : List RowV}
theorem start (W : World) : Sr W W [] [] := ⟨St.start W, fun x hx => by simp at hx⟩
theorem byte_later {r : RowV} (h : Bytes w w.heap.size r.A r.n r.xs) (k : Keep w w') : Bytes w' w'.heap.size r.A r.n r.xs := (h.keep (Nat.le_refl _) k).mono k.size
theorem later (h : Sr W w l rs) (k : Keep w w') : Sr W w' l rs := ⟨h.st.later k, fun r hr => byte_later (h.rows r hr) k⟩
theorem more {x : MV} (h : Sr W w l rs) (m : Mat w' x) (k : Keep w w') : Sr W w' (l ++ [x]) rs := ⟨h.st.more m k, fun r hr => byte_later (h.rows r hr) k⟩
theorem moreRow {r : RowV} (h : Sr W w l rs) (m : Bytes w' w'.heap.size r.A r.n r.xs) (k : Keep w w') : Sr W w' l (rs ++ [r]) := ⟨h.st.later k, fun y hy => by
  rcases List.mem_append.1 hy with e | e
  · exact byte_later (h.rows y e) k
  · rw [List.mem_singleton.1 e]; exact m⟩
theorem get {x : MV} (h : Sr W w l rs) (i : Nat) (hx : l[i]? = some x) : Mat w x := h.st.get i hx
theorem row {r : RowV} (h : Sr W w l rs) (i : Nat) (hx : rs[i]? = some r) : Bytes w w.heap.size r.A r.n r.xs := h.rows r (List.mem_of_getElem? hx)
theorem keep (h : Sr W w l rs) : Keep W w := h.st.keep
end Sr
theorem Mat.rowsAt {w : World} {A : Option Addr} {n c r k : Nat} {M : List (List Nat)} (h : Mat w ⟨A, n, c, M⟩) (s : Sz r k M) (hk : k ≤ 1000) : ∃ rs, RowsIn w (· < w.heap.size) A n rs ∧ rowsXs rs = M ∧ (∀ y ∈ rs, y.n = k) := by
  obtain ⟨rs, h1, h2, h3⟩ := h
  refine ⟨rs, h1, h2, fun y hy => ?_⟩
  rw [← (h1.2.1 y hy).1]
  have hm : y.xs ∈ rowsXs rs := List.mem_map.2 ⟨y, hy, rfl⟩
  rw [h2] at hm
  exact (s.2 y.xs hm).1
theorem RowsIn.at_rows {w : World} {B : Nat} {A : Option Addr} {n k : Nat} {rs : List RowV} (h : RowsIn w (· < B) A n rs) (hn : ∀ y ∈ rs, y.n = k) (hk : k ≤ 1000) : RowsAt w B A n rs :=
  ⟨h.1, fun r hr => ⟨(h.2.1 r hr).bytes fun _ e => e, by rw [hn r hr]; omega, (h.2.1 r hr).2.2.1⟩, h.2.2⟩
/-- vector.Combine. -/
theorem comb_mat {w : World} {A A' : Option Addr} {n n' c c' r k B : Nat} {M : List (List Nat)} {row : List Nat} (h : Mat w ⟨A, n, c, M⟩) (s : Sz r k M) (hr : 1 ≤ r) (h1 : r ≤ 255) (h2 : k ≤ 255) (hb : Bytes w B A' n' row) (hB : B ≤ w.heap.size) (hn' : n' = r) :
    Calls Try.prog 34 #[.slice A n c, .slice A' n' c'] w (NewPair w (vComb k M row r) 0) := by
  obtain rfl : n = n' := (h.cnt s).trans hn'.symm
  subst hn'
  obtain ⟨rs, e1, e2, e3⟩ := h.rowsAt s (by omega)
  obtain ⟨r0, hr0⟩ : ∃ r0, rs[0]? = some r0 := ⟨_, List.getElem?_eq_getElem (by rw [e1.1]; omega)⟩
  have hall : ∀ y ∈ rs, y.n = r0.n := fun y hy => by rw [e3 y hy, e3 r0 (List.mem_of_getElem? hr0)]
  have hh := vcomb_any (w.heap.size) B n c c' A A' rs row w (e1.at_rows e3 (by omega)) hb (Nat.le_refl _) hB (by omega) (by omega) r0 hr0
  rw [combOf, if_pos hall, combErr, if_pos hall, e3 r0 (List.mem_of_getElem? hr0), e1.1] at hh
  rw [show rowsOf rs = M from e2] at hh
  exact hh
/-- A row made and filled. -/
def fillN (xs : List Nat) (n : Nat) : List Nat := xs.take n ++ List.replicate (n - xs.length) 0
theorem fillN_len (xs : List Nat) (n : Nat) : (fillN xs n).length = n := by simp [fillN]; omega
theorem fillN_all {xs : List Nat} (h : AllB xs) (n : Nat) : AllB (fillN xs n) := (h.take n).append (AllB.zeros _)
theorem run_copy_fill {P : Program} {w : World} {B m n c ty t e : Nat} {A : Option Addr} {xs : List Nat} (ht : P.underlying t = some (.slice e)) (hs : (P.info? e).map (·.size) = some 1) (h : Bytes w B A m xs) (hB : B ≤ w.heap.size) (hn : n ≤ 140737488355328) :
    ∃ w' v, (Builtin.copy_ #[t, t] ty #[.slice (some ⟨w.heap.size, 0, none⟩) n n, .slice A m c]).run P (w.alloc (.cells (madeCells #[.int .u8 0] n) e)) = .ok v w' ∧ Own w' w.heap.size e (some ⟨w.heap.size, 0, none⟩) n n (fillN xs n) ∧ Keep w w' := by
  have ha := heap_alloc_new w (.cells (madeCells #[.int .u8 0] n) e)
  have hz : (madeCells #[Value.int .u8 0] n).toList = u8s (List.replicate n 0) := by rw [toList_madeCells_one, u8s_zeros]
  by_cases h0 : min m n = 0
  · have hf : fillN xs n = List.replicate n 0 := by
      have := h.length
      rcases (show m = 0 ∨ n = 0 by omega) with e | e
      · rw [fillN, List.eq_nil_of_length_eq_zero (this.trans e)]; simp
      · rw [fillN, e]; simp
    exact ⟨_, _, run_copy_none _ t t ty e _ A n n m c ht hs h0, hf ▸ Own.made w e n hn, (Keep.refl w).alloc _ _⟩
  · obtain ⟨b, off, rfl, _, _⟩ := h.2.2 (by omega)
    have hl : (u8s (xs.take n)).length = min m n := by rw [u8s_length, List.length_take, h.length]; omega
    have hr := run_copy_row (P := P) (w.alloc (.cells (madeCells #[.int .u8 0] n) e)) t t ty e w.heap.size 0 n n ⟨b, off, none⟩ m c (madeCells #[.int .u8 0] n) e (u8s (xs.take n)) ht hs ha hl (fun j v hv => (h.alloc hB _).cells (by omega) j v (by
      rw [u8s_get] at hv ⊢
      rw [List.getElem?_take] at hv
      split at hv
      · exact hv
      · cases hv)) (by rw [size_madeCells, hl]; simp; omega) (u8s_one _)
    refine ⟨_, _, hr, ?_, ((Keep.refl w).alloc _ _).setRow (Nat.le_refl _) ha⟩
    have hc : ((madeCells #[Value.int .u8 0] n).toList.take 0 ++ u8s (xs.take n) ++ (madeCells #[Value.int .u8 0] n).toList.drop (0 + (u8s (xs.take n)).length)) = u8s (fillN xs n) := by
      rw [List.take_zero, List.nil_append, hz, fillN, u8s_append, hl]
      congr 1
      simp only [u8s, List.map_replicate, List.drop_replicate]
      congr 1
      have := h.length
      omega
    refine ⟨⟨by rw [u8s_length, fillN_len]; simp, Or.inr ⟨w.heap.size, n, _, rfl, Nat.le_refl _, by rw [setRow_heap _ _ _ _ _ _ ha, hc], Nat.le_refl _, by unfold maxLen; omega, by simp [u8s_length, fillN_len], ?_⟩⟩, fillN_all h.all n⟩
    rw [List.toList_toArray, List.take_of_length_le (by rw [u8s_length, fillN_len]; simp)]
end Go.Proofs.Ytcmjglmagkjdoaa
