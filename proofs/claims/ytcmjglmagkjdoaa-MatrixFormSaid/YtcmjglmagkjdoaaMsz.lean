/- The code's contracts for matrices of known sizes. -/
import Derived.Test.YtcmjglmagkjdoaaMwakes
namespace Go.Proofs.Ytcmjglmagkjdoaa
open Go.RowKit
set_option linter.unusedVariables false
section
variable {w : World} {A A' : Option Addr} {n n' c c' r k m : Nat} {M N : List (List Nat)}
theorem Mat.cnt (h : Mat w ⟨A, n, c, M⟩) (s : Sz r k M) : n = r := h.len.symm.trans s.1
theorem ident_sz (hr : r ≤ 255) : Calls Try.prog 13 #[.int .i64 (r : Int)] w (NewMat w (idN r r) 0) := by
  have h := ident_mat (w := w) (r : Int)
  rw [idV, if_neg (by omega), idE, if_neg (by omega)] at h
  exact h
theorem tr_szm (h : Mat w ⟨A, n, c, M⟩) (s : Sz r k M) (hr : 1 ≤ r) (h1 : r ≤ 255) (h2 : k ≤ 255) : Calls Try.prog 15 #[.slice A n c] w (NewMat w (trN M r k) 0) := by
  have hh := tr_mat h (by rw [h.cnt s]; omega) (by rw [s.sizeC hr]; omega)
  rw [trV, if_pos s.fits, s.sizeC hr, s.1, s.sizeE] at hh
  exact hh
theorem mul_szm (h : Mat w ⟨A, n, c, M⟩) (h' : Mat w ⟨A', n', c', N⟩) (s : Sz r k M) (s' : Sz k m N) (hr : 1 ≤ r) (hk : 1 ≤ k) (h1 : r ≤ 255) (h2 : k ≤ 255) (h3 : m ≤ 255) : Calls Try.prog 17 #[.slice A n c, .slice A' n' c'] w (NewMat w (prodN M N k m r) 0) := by
  have hh := mul_mat h h' (by rw [h.cnt s]; omega) (by rw [h'.cnt s']; omega) (by rw [s.sizeC hr]; omega) (by rw [s'.sizeC hk]; omega)
  rw [(mulV_eq s s' hr hk).1, (mulV_eq s s' hr hk).2] at hh
  exact hh
theorem reduce_szm (h : Mat w ⟨A, n, c, M⟩) (s : Sz r k M) (hr : 1 ≤ r) (h1 : r ≤ 255) (h2 : k ≤ 255) : Calls Try.prog 19 #[.slice A n c] w (NewMat w (reduceN M) 0) := by
  have hh := reduce_mat h (by rw [h.cnt s]; omega) (by rw [s.sizeC hr]; omega)
  rw [s.sizeE] at hh
  exact hh
theorem rank_szm (h : Mat w ⟨A, n, c, M⟩) (s : Sz r k M) (hr : 1 ≤ r) (h1 : r ≤ 255) (h2 : k ≤ 255) : Calls Try.prog 25 #[.slice A n c] w fun e w' => e = .returned (.tuple #[.int .i64 (rk M : Int), .int .i64 0]) ∧ Keep w w' := by
  have hh := rank_mat h (by rw [h.cnt s]; omega) (by rw [s.sizeC hr]; omega)
  rw [s.sizeE] at hh
  exact hh
theorem inv_szm (h : Mat w ⟨A, n, c, M⟩) (s : Sz r r M) (hr : 1 ≤ r) (h1 : r ≤ 255) (hk : rk M = r) : Calls Try.prog 21 #[.slice A n c] w (NewMat w (invV M) 0) := by
  have hh := inv_mat h (by rw [h.cnt s]; omega) (by rw [s.sizeC hr]; omega)
  rw [(inv_eq s hr hk).1] at hh
  exact hh
theorem inv_szn (h : Mat w ⟨A, n, c, M⟩) (s : Sz r r M) (hr : 1 ≤ r) (h1 : r ≤ 255) (hk : rk M ≠ r) : Calls Try.prog 21 #[.slice A n c] w (NewMat w [] 24) := by
  have hh := inv_mat h (by rw [h.cnt s]; omega) (by rw [s.sizeC hr]; omega)
  rw [(inv_none s hr hk).1, (inv_none s hr hk).2] at hh
  exact hh
theorem same_szm (h : Mat w ⟨A, n, c, M⟩) (h' : Mat w ⟨A', n', c', M⟩) (s : Sz r k M) (h1 : r ≤ 600) : Calls Try.prog 27 #[.slice A n c, .slice A' n' c'] w fun e w' => e = .returned (.bool true) ∧ Keep w w' :=
  same_yes h h' (by rw [h.cnt s]; omega) rfl
/-- A number of rows or columns, told by a byte. -/
def sixN (s : Nat) : Nat := 1 + s % 6
theorem sixN_le (s : Nat) : 1 ≤ sixN s ∧ sixN s ≤ 6 := by unfold sixN; omega
end
end Go.Proofs.Ytcmjglmagkjdoaa
