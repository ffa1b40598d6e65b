/- Matrices side by side in memory: what is held of them on a walk; the code's contracts in those words. -/
import Derived.Test.YtcmjglmagkjdoaaMcode
import Derived.Test.YtcmjglmagkjdoaaMatLaws2
import Derived.Test.YtcmjglmagkjdoaaMshape
namespace Go.Proofs.Ytcmjglmagkjdoaa
open Go.RowKit
set_option linter.unusedVariables false
structure MV where
  A : Option Addr
  n : Nat
  c : Nat
  M : List (List Nat)
/-- A matrix in memory. -/
def Mat (w : World) (x : MV) : Prop := ∃ rs, RowsIn w (· < w.heap.size) x.A x.n rs ∧ rowsXs rs = x.M ∧ x.n ≤ x.c
namespace Mat
variable {w w' : World} {x : MV}
theorem keep (h : Mat w x) (k : Keep w w') : Mat w' x := by
  obtain ⟨rs, h1, h2, h3⟩ := h
  exact ⟨rs, (h1.turned (Turned.of_keep (F := fun _ => False) k) fun _ _ e => e).mono fun b hb => Nat.lt_of_lt_of_le hb k.size, h2, h3⟩
theorem len (h : Mat w x) : x.M.length = x.n := by
  obtain ⟨rs, h1, h2, _⟩ := h
  rw [← h2, rowsXs_len, h1.1]
theorem of_owned {A : Option Addr} {n c : Nat} {M : List (List Nat)} {rs : List RowV} (h : OwnedRows w w' A n c M rs) : Mat w' ⟨A, n, c, M⟩ :=
  ⟨rs, h.rowsIn.mono fun b hb => hb.2, h.2.2.1, ownrows_le h.1⟩
end Mat
/-- Matrices, and what was there has not turned. -/
structure St (W w : World) (l : List MV) : Prop where
  mats : ∀ x ∈ l, Mat w x
  keep : Keep W w
namespace St
variable {W w w' : World} {l : List MV}
theorem start (W : World) : St W W [] := ⟨fun x hx => by simp at hx, Keep.refl W⟩
theorem later (h : St W w l) (k : Keep w w') : St W w' l := ⟨fun x hx => (h.mats x hx).keep k, h.keep.trans k⟩
theorem more {x : MV} (h : St W w l) (m : Mat w' x) (k : Keep w w') : St W w' (l ++ [x]) := ⟨fun y hy => by
  rcases List.mem_append.1 hy with e | e
  · exact (h.mats y e).keep k
  · rw [List.mem_singleton.1 e]; exact m, h.keep.trans k⟩
theorem get {x : MV} (h : St W w l) (i : Nat) (hx : l[i]? = some x) : Mat w x := h.mats x (List.mem_of_getElem? hx)
end St
def NewMat (w : World) (M : List (List Nat)) (er : Int) (e : Ending) (w' : World) : Prop :=
  ∃ A n c, e = .returned (.tuple #[.slice A n c, .int .i64 er]) ∧ Mat w' ⟨A, n, c, M⟩ ∧ Keep w w'
theorem NewMat.of_new {w w' : World} {M : List (List Nat)} {er : Int} {e : Ending} (h : NewOwned w M er e w') : NewMat w M er e w' := by
  obtain ⟨A, n, c, he, rs, ho⟩ := h
  exact ⟨A, n, c, he, Mat.of_owned ho, ho.2.2.2⟩
section
variable {w : World} {A A' : Option Addr} {n n' c c' : Nat} {M N : List (List Nat)}
theorem size_mat (h : Mat w ⟨A, n, c, M⟩) (hn : n ≤ 1000) :
    Calls Try.prog 23 #[.slice A n c] w fun e w' => e = .returned (.tuple #[.int .i64 (sizeR M : Nat), .int .i64 (sizeC M : Nat), .int .i64 (sizeE M)]) ∧ Keep w w' := by
  obtain ⟨rs, h1, rfl, h3⟩ := h
  exact msize_any n c A _ rs w h1 (fun _ e => e) hn
theorem ident_mat (k : Int) : Calls Try.prog 13 #[.int .i64 k] w (NewMat w (idV k) (idE k)) := (mident_any k w).mono fun _ _ => NewMat.of_new
theorem tr_mat (h : Mat w ⟨A, n, c, M⟩) (hn : n ≤ 1000) (hc : sizeC M ≤ 1000) :
    Calls Try.prog 15 #[.slice A n c] w (NewMat w (trV M) (sizeE M)) := by
  obtain ⟨rs, h1, rfl, h3⟩ := h
  exact (mtr_any n c A _ rs w h1 (fun _ e => e) hn hc).mono fun _ _ => NewMat.of_new
theorem mul_mat (h : Mat w ⟨A, n, c, M⟩) (k : Mat w ⟨A', n', c', N⟩) (hn : n ≤ 1000) (hn' : n' ≤ 1000) (hc : sizeC M ≤ 1000) (hc' : sizeC N ≤ 1000) :
    Calls Try.prog 17 #[.slice A n c, .slice A' n' c'] w (NewMat w (mulV M N) (mulE M N)) := by
  obtain ⟨rs, h1, rfl, h3⟩ := h
  obtain ⟨rt, k1, rfl, k3⟩ := k
  exact (mmul_any n c n' c' A A' _ _ rs rt w h1 k1 (fun _ e => e) (fun _ e => e) hn hn' hc' hc).mono fun _ _ => NewMat.of_new
theorem reduce_mat (h : Mat w ⟨A, n, c, M⟩) (hn : n ≤ 1000) (hc : sizeC M ≤ 1000) :
    Calls Try.prog 19 #[.slice A n c] w (NewMat w (reduceN M) (sizeE M)) := by
  obtain ⟨rs, h1, rfl, h3⟩ := h
  exact (mreduce_any n c A _ rs w h1 (fun _ e => e) hn hc).mono fun _ _ => NewMat.of_new
theorem rank_mat (h : Mat w ⟨A, n, c, M⟩) (hn : n ≤ 1000) (hc : sizeC M ≤ 1000) :
    Calls Try.prog 25 #[.slice A n c] w fun e w' => e = .returned (.tuple #[.int .i64 (rk M : Int), .int .i64 (sizeE M)]) ∧ Keep w w' := by
  obtain ⟨rs, h1, rfl, h3⟩ := h
  exact mrank_any n c A _ rs w h1 (fun _ e => e) hn hc
theorem inv_mat (h : Mat w ⟨A, n, c, M⟩) (hn : n ≤ 255) (hc : sizeC M ≤ 1000) :
    Calls Try.prog 21 #[.slice A n c] w (NewMat w (invV M) (invE M)) := by
  obtain ⟨rs, h1, rfl, h3⟩ := h
  exact (minv_any n c A _ rs w h1 (fun _ e => e) hn hc).mono fun _ _ => NewMat.of_new
theorem same_mat (h : Mat w ⟨A, n, c, M⟩) (k : Mat w ⟨A', n', c', N⟩) (hn : n ≤ 140737488355328) :
    Calls Try.prog 27 #[.slice A n c, .slice A' n' c'] w fun e w' => e = .returned (.bool (decide (M = N))) ∧ Keep w w' := by
  obtain ⟨rs, h1, rfl, h3⟩ := h
  obtain ⟨rt, k1, rfl, k3⟩ := k
  exact (msame_any n n' c c' A A' _ _ rs rt w h1 k1 (fun _ e => e) (fun _ e => e) hn).mono fun e w' h => ⟨h.1, by obtain ⟨_, j, rfl⟩ := h; exact (Keep.refl w).drewN j⟩
/-- .. of matrices that are one. -/
theorem same_yes (h : Mat w ⟨A, n, c, M⟩) (k : Mat w ⟨A', n', c', N⟩) (hn : n ≤ 140737488355328) (hMN : M = N) :
    Calls Try.prog 27 #[.slice A n c, .slice A' n' c'] w fun e w' => e = .returned (.bool true) ∧ Keep w w' :=
  (same_mat h k hn).mono fun e w' hh => ⟨by rw [hh.1, decide_eq_true hMN], hh.2⟩
end
theorem shape_sz (xs : List Nat) (rows cols : Nat) (ha : AllB xs) : Sz rows cols (shapeN xs rows cols) := ⟨by simp [shapeN], fun x hx => by
  obtain ⟨k, _, rfl⟩ := List.mem_map.1 hx
  refine ⟨tab_length _ _, fun y hy => ?_⟩
  obtain ⟨j, _, rfl⟩ := List.mem_map.1 hy
  exact ha.getD _⟩
theorem shaped_mat (B n c rows cols : Nat) (A : Option Addr) (xs : List Nat) (w : World) (h : Bytes w B A n xs) (hB : B ≤ w.heap.size) (hn : n ≤ 140737488355328) (h1 : rows ≤ 1000) (h2 : cols ≤ 1000) :
    Calls Try.prog 29 #[.slice A n c, .int .i64 (rows : Int), .int .i64 (cols : Int)] w fun e w' => ∃ A' n' c', e = .returned (.slice A' n' c') ∧ Mat w' ⟨A', n', c', shapeN xs rows cols⟩ ∧ Keep w w' :=
  (shaped_any B n c rows cols A xs w h hB hn h1 h2).mono fun e w' hh => by
    obtain ⟨A', n', c', he, rs, ho⟩ := hh
    exact ⟨A', n', c', he, Mat.of_owned ho, ho.2.2.2⟩
end Go.Proofs.Ytcmjglmagkjdoaa
