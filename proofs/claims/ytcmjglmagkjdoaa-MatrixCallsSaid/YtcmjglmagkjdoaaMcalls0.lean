/- Layer 6's first statement: what is told, small; the contracts side by side. -/
import Derived.Test.YtcmjglmagkjdoaaMcheck
import Derived.Test.YtcmjglmagkjdoaaMsz
namespace Go.Proofs.Ytcmjglmagkjdoaa
open Go.RowKit Lin
set_option linter.unusedVariables false
set_option linter.unusedSimpArgs false
/-- Few rows, few numbers. -/
def Small (k : Nat) (M : List (List Nat)) : Prop := M.length ≤ k ∧ ∀ x ∈ M, x.length ≤ k ∧ AllB x
theorem cutN_small {M : List (List Nat)} (h : ∀ x ∈ M, AllB x) : Small 12 (cutN M) := by
  refine ⟨by rw [cutN, List.length_map, List.length_take]; omega, fun x hx => ?_⟩
  obtain ⟨y, hy, rfl⟩ := List.mem_map.1 hx
  exact ⟨by rw [List.length_take]; omega, (h y (List.mem_of_mem_take hy)).take 12⟩
theorem cutN_cutN (M : List (List Nat)) : cutN (cutN M) = cutN M := by
  rw [cutN, List.take_of_length_le (by rw [cutN, List.length_map, List.length_take]; omega), cutN, List.map_map]
  exact List.map_congr_left fun x _ => by show (x.take 12).take 12 = _; rw [List.take_take, Nat.min_self]
theorem Small.sizeC_le {k : Nat} {M : List (List Nat)} (h : Small k M) : sizeC M ≤ k := by
  rw [sizeC]
  split
  · cases M with
    | nil => exact Nat.zero_le _
    | cons y M => exact (h.2 y (by simp)).1
  · exact Nat.zero_le _
theorem Small.sz {k : Nat} {M : List (List Nat)} (h : Small k M) (hf : fits M) : Sz M.length (sizeC M) M := ⟨rfl, fun x hx => ⟨by rw [sizeC, if_pos hf]; exact hf x hx, (h.2 x hx).2⟩⟩
theorem small_nil (k : Nat) : Small k [] := ⟨Nat.zero_le _, fun x hx => by simp at hx⟩
theorem Sz.small {r c k : Nat} {M : List (List Nat)} (h : Sz r c M) (h1 : r ≤ k) (h2 : c ≤ k) : Small k M := ⟨by rw [h.1]; exact h1, fun x hx => ⟨by rw [(h.2 x hx).1]; exact h2, (h.2 x hx).2⟩⟩
theorem small_id (n : Int) : Small 255 (idV n) := by
  rw [idV]
  split
  · exact small_nil _
  · exact (id_sz n.toNat).small (by omega) (by omega)
theorem small_tr {M : List (List Nat)} (h : Small 12 M) : Small 255 (trV M) := by
  rw [trV]
  split
  · rename_i hf
    have := h.sizeC_le
    have := h.1
    exact (tr_sz (h.sz hf)).small (by omega) (by omega)
  · exact small_nil _
theorem small_mul {M N : List (List Nat)} (h : Small 12 M) (k : Small 12 N) : Small 255 (mulV M N) := by
  rw [mulV]
  split
  · rename_i hf
    have := k.sizeC_le
    have := h.1
    exact (prod_sz (h.sz hf.1) _ N).small (by omega) (by omega)
  · exact small_nil _
theorem small_red {M : List (List Nat)} (h : Small 12 M) : Small 255 (reduceN M) := by
  by_cases hf : fits M
  · have h1 := h.sizeC_le
    have h2 := red_sz (h.sz hf)
    have h3 := rk_le (h.sz hf)
    exact h2.small (by omega) (by omega)
  · rw [reduceN, if_neg hf]; exact small_nil _
theorem small_inv {M : List (List Nat)} (h : Small 12 M) : Small 255 (invV M) := by
  by_cases he : invE M = 0
  · have hf : fits M ∧ M.length = sizeC M := by
      apply Classical.byContradiction
      intro hn
      rw [invE, if_pos (by
        rcases Classical.em (fits M) with e | e
        · exact Or.inr fun e2 => hn ⟨e, e2⟩
        · exact Or.inl e)] at he
      cases he
    have hs := h.sz hf.1
    have h1 := h.1
    rw [invV, if_pos he]
    have hw : RowsOk (M.length + M.length) (wideN M M.length) := wideN_ok (by have := hs.2; rwa [← hf.2] at this) rfl
    have hred := (reduceTo_red hw M.length (by rw [wideN_len]; exact Nat.le_refl _)).1
    refine ⟨by rw [List.length_map]; have := redL_length hred; omega, fun x hx => ?_⟩
    obtain ⟨y, hy, rfl⟩ := List.mem_map.1 hx
    exact ⟨by rw [List.length_drop, (hred.1 y hy).1]; omega, fun z hz => (hred.1 y hy).2 z (List.mem_of_mem_drop hz)⟩
  · rw [invV, if_neg he]; exact small_nil _
theorem NewMat.of_rows {w w' : World} {M : List (List Nat)} {er : Int} {e : Ending} (h : NewRows w M er e w') : NewMat w M er e w' := by
  obtain ⟨A, n, c, he, rs, h1, h2, h3, h4⟩ := h
  exact ⟨A, n, c, he, ⟨rs, h1.mono fun b hb => hb.2, h3, h2⟩, h4⟩
section
variable {w : World} {A A' : Option Addr} {n n' c c' : Nat} {M N : List (List Nat)}
theorem rident_mat (k : Int) : Calls Try.prog 14 #[.int .i64 k] w (NewMat w (idV k) (idE k)) := by
  by_cases h : k < 0 ∨ 255 < k
  · rw [idV, if_pos h, idE, if_pos h]
    exact (rident_out k h w).mono fun e w' hh => ⟨none, 0, 0, hh.1, mat_none _, hh.2 ▸ Keep.refl _⟩
  · obtain ⟨m, rfl⟩ : ∃ m : Nat, k = (m : Int) := ⟨k.toNat, by omega⟩
    have hh := (rident_in m (by omega) w).mono fun _ _ => NewMat.of_rows
    rw [idV, if_neg h, idE, if_neg h]
    exact hh
theorem rtr_mat (h : Mat w ⟨A, n, c, M⟩) (s : Small 12 M) : Calls Try.prog 16 #[.slice A n c] w (NewMat w (trV M) (sizeE M)) := by
  have hl := h.len
  have h1 := s.1
  have h2 := s.sizeC_le
  obtain ⟨rs, e1, rfl, e3⟩ := h
  have hl : (rowsXs rs).length = n := hl
  have hh := (rtr_any n c A _ rs w e1 (fun _ e => e) (by omega) (by omega)).mono fun _ _ => NewMat.of_rows
  rw [← hl] at hh ⊢
  exact hh
theorem rmul_mat (h : Mat w ⟨A, n, c, M⟩) (k : Mat w ⟨A', n', c', N⟩) (s : Small 12 M) (s' : Small 12 N) : Calls Try.prog 18 #[.slice A n c, .slice A' n' c'] w (NewMat w (mulV M N) (mulE M N)) := by
  have hl : M.length = n := h.len
  have hl' : N.length = n' := k.len
  have h1 := s.1
  have h2 := s.sizeC_le
  have h3 := s'.1
  have h4 := s'.sizeC_le
  obtain ⟨rs, e1, rfl, e3⟩ := h
  obtain ⟨rt, k1, rfl, k3⟩ := k
  exact (rmatmul_any n c n' c' A A' _ _ rs rt w e1 k1 (fun _ e => e) (fun _ e => e) (by omega) (by omega) (by omega) (by omega)).mono fun _ _ => NewMat.of_rows
theorem rreduce_mat (h : Mat w ⟨A, n, c, M⟩) (s : Small 12 M) : Calls Try.prog 20 #[.slice A n c] w (NewMat w (reduceN M) (sizeE M)) := by
  have hl : M.length = n := h.len
  have h1 := s.1
  have h2 := s.sizeC_le
  obtain ⟨rs, e1, rfl, e3⟩ := h
  exact (rreduce_any n c A _ rs w e1 (fun _ e => e) (by omega) (by omega)).mono fun _ _ => NewMat.of_rows
theorem rinv_mat (h : Mat w ⟨A, n, c, M⟩) (s : Small 12 M) : Calls Try.prog 22 #[.slice A n c] w (NewMat w (invV M) (invE M)) := by
  have hl : M.length = n := h.len
  have h1 := s.1
  have h2 := s.sizeC_le
  obtain ⟨rs, e1, rfl, e3⟩ := h
  exact (rinverse_any n c A _ rs w e1 (fun _ e => e) (by omega) (by omega)).mono fun _ _ => NewMat.of_rows
theorem rsize_mat (h : Mat w ⟨A, n, c, M⟩) (s : Small 12 M) : Calls Try.prog 24 #[.slice A n c] w fun e w' => e = .returned (.tuple #[.int .i64 (sizeR M : Nat), .int .i64 (sizeC M : Nat), .int .i64 (sizeE M)]) ∧ Keep w w' := by
  have hl : M.length = n := h.len
  have h1 := s.1
  obtain ⟨rs, e1, rfl, e3⟩ := h
  exact (rsize_any n c A _ rs w e1 (by omega)).mono fun e w' hh => ⟨hh.1, by obtain ⟨_, k, rfl⟩ := hh; exact (Keep.refl w).drewN k⟩
theorem rrank_mat (h : Mat w ⟨A, n, c, M⟩) (s : Small 12 M) : Calls Try.prog 26 #[.slice A n c] w fun e w' => e = .returned (.tuple #[.int .i64 (rk M : Int), .int .i64 (sizeE M)]) ∧ Keep w w' := by
  have hl : M.length = n := h.len
  have h1 := s.1
  have h2 := s.sizeC_le
  obtain ⟨rs, e1, rfl, e3⟩ := h
  exact rrank_any n c A _ rs w e1 (fun _ e => e) (by omega) (by omega)
theorem rsame_mat (h : Mat w ⟨A, n, c, M⟩) (k : Mat w ⟨A', n', c', N⟩) (hn : n ≤ 140737488355328) : Calls Try.prog 12 #[.slice A n c, .slice A' n' c'] w fun e w' => e = .returned (.bool (decide (M = N))) ∧ Keep w w' := by
  obtain ⟨rs, h1, rfl, h3⟩ := h
  obtain ⟨rt, k1, rfl, k3⟩ := k
  exact (rsame_any n n' c c' A A' _ _ rs rt w h1 k1 (fun _ e => e) (fun _ e => e) hn).mono fun e w' h => ⟨h.1, by obtain ⟨_, j, rfl⟩ := h; exact (Keep.refl w).drewN j⟩
/-- The code's, with what the closure asks. -/
theorem cident_new (k : Int) : Calls Try.prog 13 #[.int .i64 k] w (NewOwned w (idV k) (idE k)) := mident_any k w
theorem ctr_new (h : Mat w ⟨A, n, c, M⟩) (s : Small 12 M) : Calls Try.prog 15 #[.slice A n c] w (NewOwned w (trV M) (sizeE M)) := by
  have hl : M.length = n := h.len
  have h1 := s.1
  have h2 := s.sizeC_le
  obtain ⟨rs, e1, rfl, e3⟩ := h
  exact mtr_any n c A _ rs w e1 (fun _ e => e) (by omega) (by omega)
theorem cmul_new (h : Mat w ⟨A, n, c, M⟩) (k : Mat w ⟨A', n', c', N⟩) (s : Small 12 M) (s' : Small 12 N) : Calls Try.prog 17 #[.slice A n c, .slice A' n' c'] w (NewOwned w (mulV M N) (mulE M N)) := by
  have hl : M.length = n := h.len
  have hl' : N.length = n' := k.len
  have h1 := s.1
  have h2 := s.sizeC_le
  have h3 := s'.1
  have h4 := s'.sizeC_le
  obtain ⟨rs, e1, rfl, e3⟩ := h
  obtain ⟨rt, k1, rfl, k3⟩ := k
  exact mmul_any n c n' c' A A' _ _ rs rt w e1 k1 (fun _ e => e) (fun _ e => e) (by omega) (by omega) (by omega) (by omega)
theorem creduce_new (h : Mat w ⟨A, n, c, M⟩) (s : Small 12 M) : Calls Try.prog 19 #[.slice A n c] w (NewOwned w (reduceN M) (sizeE M)) := by
  have hl : M.length = n := h.len
  have h1 := s.1
  have h2 := s.sizeC_le
  obtain ⟨rs, e1, rfl, e3⟩ := h
  exact mreduce_any n c A _ rs w e1 (fun _ e => e) (by omega) (by omega)
theorem cinv_new (h : Mat w ⟨A, n, c, M⟩) (s : Small 12 M) : Calls Try.prog 21 #[.slice A n c] w (NewOwned w (invV M) (invE M)) := by
  have hl : M.length = n := h.len
  have h1 := s.1
  have h2 := s.sizeC_le
  obtain ⟨rs, e1, rfl, e3⟩ := h
  exact minv_any n c A _ rs w e1 (fun _ e => e) (by omega) (by omega)
end
/-- The closure, behind the code's call (w0 to w1) and the document's (to w). -/
theorem check_new {W w0 w1 w : World} {g n c n' c' : Nat} {er : Int} {A A' : Option Addr} {M : List (List Nat)} {rs : List RowV} (hR : Right W w0 g) (ho : OwnedRows w0 w1 A n c M rs) (k : Keep w1 w) (hm : Mat w ⟨A', n', c', M⟩) (s : Small 255 M) :
    Calls Try.prog 11 #[.slice A n c, .int .i64 er, .slice A' n' c', .int .i64 er, .pointer (some ⟨g, 0, none⟩)] w fun e w' => e = .returned (.tuple #[]) ∧ Right W w' g := by
  have hk : Keep w0 w := ho.2.2.2.trans k
  have hx := ho.2.2.1
  refine check_any W w0 w g n c n' c' er A A' rs (hR.later hk) hR.cell.2.2 hk.size (ho.1.keep k) (fun r hr => (ho.2.1 r hr).keep k) (by rw [hx]; exact hm) ?_ (fun r hr => ?_)
  · rw [← ho.1.length, ← rowsXs_len, hx]; have := s.1; omega
  · have := (s.2 r.xs (by rw [← hx]; exact List.mem_map.2 ⟨r, hr, rfl⟩)).1
    rw [(ho.2.1 r hr).length] at this; omega
end Go.Proofs.Ytcmjglmagkjdoaa
