/- A copy into a row of noughts that lies; two of them made. -/
import Derived.Test.YtcafofffgmaepaaSn1
namespace Go.Proofs.Ytcafofffgmaepaa
open Go.RowKit
set_option linter.unusedVariables false
theorem run_copy_into {P : Program} {W w : World} {B m n c ty t e : Nat} {A : Option Addr} {xs : List Nat} (p : Nat) (ht : P.underlying t = some (.slice e)) (hs : (P.info? e).map (·.size) = some 1) (ha : w.heap[p]? = some (.cells (madeCells #[.int .u8 0] n) e (0, 0))) (h : Bytes w B A m xs) (hn : n ≤ 140737488355328) (hW : Keep W w) (hp : W.heap.size ≤ p) :
    ∃ w' v, (Builtin.copy_ #[t, t] ty #[.slice (some ⟨p, 0, none⟩) n n, .slice A m c]).run P w = .ok v w' ∧ Own w' p e (some ⟨p, 0, none⟩) n n (fillN xs n) ∧ Keep W w' ∧ Turned (fun i => i = p) w w' := by
  have hz : (madeCells #[Value.int .u8 0] n).toList = u8s (List.replicate n 0) := by rw [toList_madeCells_one, u8s_zeros]
  by_cases h0 : min m n = 0
  · have hf : fillN xs n = List.replicate n 0 := by
      have := h.length
      rcases (show m = 0 ∨ n = 0 by omega) with e | e
      · rw [fillN, List.eq_nil_of_length_eq_zero (this.trans e)]; simp
      · rw [fillN, e]; simp
    refine ⟨_, _, run_copy_none _ t t ty e _ A n n m c ht hs h0, ?_, hW, Turned.refl _ _⟩
    rw [hf]
    refine ⟨⟨by rw [u8s_length]; simp, Or.inr ⟨p, n, _, rfl, Nat.le_refl _, ha, Nat.le_refl _, by unfold maxLen; omega, by rw [size_madeCells]; simp, ?_⟩⟩, AllB.zeros n⟩
    rw [hz, List.take_of_length_le (by rw [u8s_length]; simp)]
  · obtain ⟨b, off, rfl, _, _⟩ := h.2.2 (by omega)
    have hl : (u8s (xs.take n)).length = min m n := by rw [u8s_length, List.length_take, h.length]; omega
    have hr := run_copy_row (P := P) w t t ty e p 0 n n ⟨b, off, none⟩ m c (madeCells #[.int .u8 0] n) e (u8s (xs.take n)) ht hs ha hl (fun j v hv => h.cells (by omega) j v (by
      rw [u8s_get] at hv ⊢
      rw [List.getElem?_take] at hv
      split at hv
      · exact hv
      · cases hv)) (by rw [size_madeCells, hl]; simp; omega) (u8s_one _)
    refine ⟨_, _, hr, ?_, hW.setRow hp ha, ⟨rfl, rfl, rfl, by simp [World.setRow], fun i hi hn => setRow_other _ _ _ _ hn⟩⟩
    have hc : ((madeCells #[Value.int .u8 0] n).toList.take 0 ++ u8s (xs.take n) ++ (madeCells #[Value.int .u8 0] n).toList.drop (0 + (u8s (xs.take n)).length)) = u8s (fillN xs n) := by
      rw [List.take_zero, List.nil_append, hz, fillN, u8s_append, hl]
      congr 1
      simp only [u8s, List.map_replicate, List.drop_replicate]
      congr 1
      have := h.length
      omega
    refine ⟨⟨by rw [u8s_length, fillN_len]; simp, Or.inr ⟨p, n, _, rfl, Nat.le_refl _, by rw [setRow_heap _ _ _ _ _ _ ha, hc], Nat.le_refl _, by unfold maxLen; omega, by simp [u8s_length, fillN_len], ?_⟩⟩, fillN_all h.all n⟩
    rw [List.toList_toArray, List.take_of_length_le (by rw [u8s_length, fillN_len]; simp)]
/-- Two rows made, one behind the other. -/
theorem two_made (w : World) (cs : Array Value) (t : TypeId) : ∃ w', ((w.alloc (.cells cs t)).alloc (.cells cs t)).drew = w' ∧ w'.heap[w.heap.size]? = some (.cells cs t (0, 0)) ∧ w'.heap[w.heap.size + 1]? = some (.cells cs t (0, 0)) ∧ Keep w w' := by
  obtain ⟨w1, h1, z1, k1, b1⟩ := one_block w cs t
  obtain ⟨w2, h2, z2, k2, b2⟩ := one_block w1 cs t
  rw [h1, h2]
  rw [z1] at b2
  exact ⟨_, rfl, block_keep (block_keep b1 k2) (Keep.drew (Keep.refl _)), block_keep b2 (Keep.drew (Keep.refl _)), (k1.trans k2).trans (Keep.drew (Keep.refl _))⟩
theorem lay_at (g s : Nat) (r : List Nat) (i : Nat) : (layN g s r).getD i [] = if i < g then cutN s i (allN (g * s) r) else [] := by
  rw [layN, cutsN, List.getD_eq_getElem?_getD, List.getElem?_map]
  split
  · rename_i h
    rw [List.getElem?_range h]; rfl
  · rename_i h
    rw [List.getElem?_eq_none (by simpa using h)]; rfl
theorem lay_all {g s : Nat} {r : List Nat} (hr : AllB r) (i : Nat) : AllB ((layN g s r).getD i []) := by
  rw [lay_at]; split
  · exact cutN_all (allN_all hr)
  · intro x hx; simp at hx
theorem lay_len {g s : Nat} {r : List Nat} (h : r.length + 4 ≤ g * s) {i : Nat} (hi : i < g) : ((layN g s r).getD i []).length = s := by
  rw [lay_at, if_pos hi]; exact cutN_len (allN_len h) hi
theorem gen_all {g s P : Nat} {xs cs : List Nat} {R : List (List Nat)} (h : GoodS g s P xs cs R) (hx : AllB xs) (gen : Nat) (hg : gen < R.length) : AllB (R.getD gen []) ∧ (R.getD gen []).length + 4 ≤ g * s := by
  have e : R.getD gen [] = R[gen] := by rw [List.getD_eq_getElem?_getD, List.getElem?_eq_getElem hg]; rfl
  have hm : R[gen] ∈ R := List.getElem_mem hg
  rw [e]
  have hf := gens_flat (room := P - 4) (cuts := cs) (xs := xs) h.room
  rw [← h.gens] at hf
  refine ⟨fun x hx2 => hx x ?_, ?_⟩
  · rw [← hf]
    exact List.mem_append_left _ (List.mem_flatten.2 ⟨_, hm, hx2⟩)
  · have he := (gens_each (room := P - 4) (cuts := cs) (xs := xs) h.room) R[gen] (by rw [← h.gens]; exact hm)
    have := h.size.eq
    have := h.size.lo
    omega
theorem equal_yes (B B' n m ca cb : Nat) (A A' : Option Addr) (xs : List Nat) (w : World) (h : Bytes w B A n xs) (h' : Bytes w B' A' m xs) :
    Calls Try.prog 31 #[.slice A n ca, .slice A' m cb] w fun e w' => e = .returned (.bool true) ∧ w = w' := by
  have := equal_any B B' n m ca cb A A' xs xs w h h'
  rwa [decide_eq_true rfl] at this
theorem vAddS_len (n : Nat) (xs ys : List Nat) (c : Nat) : (vAddS n xs ys c).length = n := tab_length _ _
theorem vComb_len (n : Nat) (R : List (List Nat)) (c : List Nat) (k : Nat) : (vComb n R c k).length = n := tab_length _ _
/-- What Row and Send tell of a generation that there is. -/
theorem row_lin (g s : Nat) (R : List (List Nat)) (gen : Nat) (D : List Nat) (h : gen < R.length) (hD : D.length = g) : rowE g R gen D.length = 0 ∧ rowC g R gen D = D ∧ rowP g s R gen D = vComb s (layN g s (R.getD gen [])) D g := by
  have e : rowE g R gen D.length = 0 := by rw [rowE, if_neg (by omega), if_pos hD]
  exact ⟨e, by rw [rowC, if_pos e], by rw [rowP, if_pos e]⟩
theorem send_lin (g s : Nat) (R : List (List Nat)) (gen sent : Nat) (D : List Nat) (h : gen < R.length) : symE R gen = 0 ∧ symL g s R gen = layN g s (R.getD gen []) ∧ sendC g R gen sent D = sendN g sent D ∧ sendP g s R gen sent D = vComb s (layN g s (R.getD gen [])) (sendN g sent D) g := by
  have e : symE R gen = 0 := by rw [symE, if_neg (by omega)]
  exact ⟨e, by rw [symL, if_neg (by omega)], by rw [sendC, if_pos e], by rw [sendP, if_pos e]⟩
end Go.Proofs.Ytcafofffgmaepaa
