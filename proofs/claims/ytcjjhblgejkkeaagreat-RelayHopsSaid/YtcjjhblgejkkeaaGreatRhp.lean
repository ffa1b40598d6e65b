/- Four relays, each of which takes what the one ahead sends. -/
import Derived.Test.YtcjjhblgejkkeaaGreatRpc
import Derived.Test.YtcjjhblgejkkeaaGreatRs1
namespace Go.Proofs.YtcjjhblgejkkeaaGreat
open Go.RowKit Lin
set_option linter.unusedVariables false
section
variable {g s : Nat} {M : List (List Nat)} {R : Nat → RelS}
/-- True rows, and each relay's of the span of the one's ahead. -/
structure Hop (g s : Nat) (M : List (List Nat)) (R : Nat → RelS) : Prop where
  b : ∀ j, j < 4 → (R j).b = 0
  bas : ∀ j, j < 4 → Bas g s ((R j).L 1)
  w : ∀ j, j < 4 → Within ((R j).L 1).length (fn ((R j).L 1)) g (symR g M)
  ch : ∀ j, j + 1 < 4 → Within ((R (j + 1)).L 1).length (fn ((R (j + 1)).L 1)) ((R j).L 1).length (fn ((R j).L 1))
theorem Hop.took (h : Hop g s M R) {i p : Nat} {F : Nat → Prop} {row : List Nat} (hi : i < 4) (hl : row.length = g + s) (ha : AllB row) (hr : InSpan g (symR g M) (vec row)) (hp : ∀ j, j + 1 = i → InSpan ((R j).L 1).length (fn ((R j).L 1)) (vec row)) : Hop g s M (updR R i ⟨p, F, 0, upd (R i).L 1 (insB g s ((R i).L 1) row)⟩) := by
  obtain ⟨-, i2, i3⟩ := insB_sym (h.bas i hi) (h.w i hi) hl ha hr
  have i4 := insB_bas (h.bas i hi) hl ha
  obtain ⟨N, hN⟩ : ∃ N, insB g s ((R i).L 1) row = N := ⟨_, rfl⟩
  rw [hN] at i2 i3 i4 ⊢
  obtain ⟨R', hR'⟩ : ∃ R', updR R i ⟨p, F, 0, upd (R i).L 1 N⟩ = R' := ⟨_, rfl⟩
  have e0 : (R' i).b = 0 := by rw [← hR', updR_at]
  have e1 : (R' i).L 1 = N := by rw [← hR', updR_at]; show upd (R i).L 1 N 1 = N; exact upd_at _ _ _
  have ne : ∀ j, j ≠ i → R' j = R j := fun j hj => by rw [← hR']; exact updR_ne _ _ hj
  rw [hR']
  refine ⟨fun j hj => ?_, fun j hj => ?_, fun j hj => ?_, fun j hj => ?_⟩
  · by_cases e : j = i
    · subst e; exact e0
    · rw [ne j e]; exact h.b j hj
  · by_cases e : j = i
    · subst e; rw [e1]; exact i4
    · rw [ne j e]; exact h.bas j hj
  · by_cases e : j = i
    · subst e; rw [e1]; exact i2
    · rw [ne j e]; exact h.w j hj
  · by_cases e : j + 1 = i
    · subst e
      rw [e1, ne j (by omega)]
      refine i3.1.trans laws (within_append (h.ch j hj) fun k hk => ?_)
      obtain rfl : k = 0 := by simp at hk; exact hk
      exact hp j rfl
    · rw [ne (j + 1) e]
      by_cases e2 : j = i
      · subst e2
        rw [e1]
        exact (h.ch j hj).trans laws (within_left.trans laws i3.2)
      · rw [ne j e2]; exact h.ch j hj
theorem Hop.start (hb : ∀ j, j < 4 → (R j).b = 0 ∧ (R j).L = fun _ => []) : Hop g s M R := by
  have e : ∀ j, j < 4 → (R j).L 1 = [] := fun j hj => by rw [(hb j hj).2]
  refine ⟨fun j hj => (hb j hj).1, fun j hj => by rw [e j hj]; exact Bas.nil g s, fun j hj => by rw [e j hj]; exact fun k hk => by simp at hk, fun j hj => by rw [e (j + 1) hj]; exact fun k hk => by simp at hk⟩
/-- A true row, told in two parts. -/
theorem true_row (h : Sz g s M) {x : List Nat} (hl : x.length = g) (ha : AllB x) : (x ++ payV g s M x).length = g + s ∧ AllB (x ++ payV g s M x) ∧ InSpan g (symR g M) (vec (x ++ payV g s M x)) := by
  have h1 := rowV_ok h hl ha
  exact ⟨h1.1, h1.2, ⟨_, vec_rowV h hl ha⟩⟩
end
/-- The first i of four pointers are laid. -/
def ptrL (i : Nat) (R : Nat → RelS) : List Value := (List.range 4).map fun j => if j < i then .pointer (some ⟨(R j).p, 0, none⟩) else .pointer none
def Ptrs (w : World) (gr i : Nat) (R : Nat → RelS) : Prop := w.heap[gr]? = some (.cells (ptrL i R).toArray 79 (0, 0))
namespace Ptrs
variable {w w2 : World} {gr i : Nat} {R : Nat → RelS} {G : Nat → Prop}
theorem start (w : World) (R : Nat → RelS) : Ptrs (w.alloc (.cells #[.pointer none, .pointer none, .pointer none, .pointer none] 79)) w.heap.size 0 R := heap_alloc_new w _
theorem lt (h : Ptrs w gr i R) : gr < w.heap.size := (Array.getElem?_eq_some_iff.1 h).1
theorem free (h : Ptrs w gr i R) (j : Nat) : w.frozen? ⟨gr, j, none⟩ = false := by
  have h : w.heap[gr]? = _ := h
  simp [World.frozen?, h]
theorem cell (h : Ptrs w gr i R) {j : Nat} (hj : j < 4) : w.cell? ⟨gr, j, none⟩ = some (if j < i then .pointer (some ⟨(R j).p, 0, none⟩) else .pointer none) := by
  have h : w.heap[gr]? = _ := h
  simp only [World.cell?, h]
  rw [List.getElem?_toArray, ptrL, List.getElem?_map, List.getElem?_range hj]; rfl
theorem at_ (h : Ptrs w gr i R) {j : Nat} (hj : j < i) (hi : i ≤ 4) : w.cell? ⟨gr, j, none⟩ = some (.pointer (some ⟨(R j).p, 0, none⟩)) := by
  rw [h.cell (by omega), if_pos hj]
theorem turned (h : Ptrs w gr i R) (t : Turned G w w2) (hG : ¬ G gr) : Ptrs w2 gr i R := (t.block gr h.lt hG).trans h
theorem keep (h : Ptrs w gr i R) (k : Keep w w2) : Ptrs w2 gr i R := (k.block gr h.lt).trans h
theorem congr (h : Ptrs w gr i R) {R' : Nat → RelS} (e : ∀ j, j < i → (R' j).p = (R j).p) : Ptrs w gr i R' := by
  have e2 : ptrL i R' = ptrL i R := by
    refine List.map_congr_left fun j _ => ?_
    by_cases hj : j < i
    · rw [if_pos hj, if_pos hj, e j hj]
    · rw [if_neg hj, if_neg hj]
  unfold Ptrs; rw [e2]; exact h
theorem set (h : Ptrs w gr i R) (hi : i < 4) (r : RelS) : Ptrs (w.setCell ⟨gr, i, none⟩ (.pointer (some ⟨r.p, 0, none⟩))) gr (i + 1) (updR R i r) := by
  unfold Ptrs
  rw [bset h]
  congr 2
  refine Array.ext' ?_
  rw [Array.toList_setIfInBounds]
  show (ptrL i R).set i _ = ptrL (i + 1) _
  refine List.ext_getElem? fun j => ?_
  unfold ptrL
  rw [List.getElem?_set]
  by_cases hj : j < 4
  · rw [List.getElem?_map, List.getElem?_map, List.getElem?_range hj]
    by_cases e : i = j
    · subst e
      rw [if_pos rfl, if_pos (by simp; exact hi)]
      show some _ = some (if i < i + 1 then _ else _)
      rw [if_pos (by omega), updR_at]
    · rw [if_neg e]
      show some (if j < i then _ else _) = some (if j < i + 1 then _ else _)
      by_cases e2 : j < i
      · rw [if_pos e2, if_pos (by omega), updR_ne _ _ fun e => by omega]
      · rw [if_neg e2, if_neg (by omega)]
  · have e1 : ((List.range 4).map fun j => if j < i then Value.pointer (some ⟨(R j).p, 0, none⟩) else .pointer none)[j]? = none := by simp; omega
    have e2 : ((List.range 4).map fun j => if j < i + 1 then Value.pointer (some ⟨(updR R i r j).p, 0, none⟩) else .pointer none)[j]? = none := by simp; omega
    rw [e1, e2, if_neg (by omega)]
end Ptrs
end Go.Proofs.YtcjjhblgejkkeaaGreat
