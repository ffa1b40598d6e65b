/- The document's answers of layer 6 in plain terms. -/
import Derived.Test.YtcmjglmagkjdoaaMatRed
namespace Go.Proofs.Ytcmjglmagkjdoaa
open Lin
/-- The document's reduced matrix. -/
def reduceN (M : List (List Nat)) : List (List Nat) := if fits M then reduceTo (sizeC M) M M.length else []
/-- The document's product. -/
def mulR (M N : List (List Nat)) : Prop := fits M ∧ fits N ∧ sizeC M = sizeR N
instance (M N : List (List Nat)) : Decidable (mulR M N) := by unfold mulR; infer_instance
def mulE (M N : List (List Nat)) : Int := if mulR M N then 0 else 21
def mulV (M N : List (List Nat)) : List (List Nat) := if mulR M N then prodN M N (sizeC M) (sizeC N) M.length else []
/-- The rows, each with a unit behind it. -/
def wideN (M : List (List Nat)) (n : Nat) : List (List Nat) := (List.range n).map fun i => M.getD i [] ++ vUnit n i
theorem wideN_len (M : List (List Nat)) (n : Nat) : (wideN M n).length = n := by simp [wideN]
theorem wideN_at (M : List (List Nat)) (n i : Nat) (h : i < n) : (wideN M n).getD i [] = M.getD i [] ++ vUnit n i := by
  rw [wideN, List.getD_eq_getElem?_getD, List.getElem?_map, List.getElem?_range h]; rfl
theorem vUnit_all (n k : Nat) : AllB (vUnit n k) := fun x hx => by
  obtain ⟨i, _, rfl⟩ := List.mem_map.1 hx
  show (if i = k then 1 else 0) < 256
  split <;> decide
theorem wideN_ok {M : List (List Nat)} {n : Nat} (hM : RowsOk n M) (hl : M.length = n) : RowsOk (n + n) (wideN M n) := fun x hx => by
  obtain ⟨i, hi, rfl⟩ := List.mem_map.1 hx
  have hw := hM.at_ (show i < M.length by rw [hl]; exact List.mem_range.1 hi)
  exact ⟨by rw [List.length_append, hw.1, vUnit, tab_length], hw.2.append (vUnit_all n i)⟩
theorem wide_free {M : List (List Nat)} {n : Nat} (hM : RowsOk n M) (hl : M.length = n) : Free n (fn (wideN M n)) := fun c hc i hi => by
  have h := hc (n + i)
  have e : comb n (fn (wideN M n)) c (n + i) = c i := by
    have hone : ∀ k, k < n → fn (wideN M n) k (n + i) = if i = k then 1 else 0 := fun k hk => by
      have hw := hM.at_ (show k < M.length by omega)
      rw [fn, wideN_at M n k hk]
      apply By.ext
      rw [vec_v (hw.2.append (vUnit_all n k)), List.getD_eq_getElem?_getD, List.getElem?_append_right (by omega), hw.1, Nat.add_sub_cancel_left, ← List.getD_eq_getElem?_getD, vUnit, tab_getD, if_pos hi]
      split <;> rfl
    show sm n (fun k => c k * fn (wideN M n) k (n + i)) = c i
    rw [sm_one laws hi (fun k hk hne => by rw [hone k hk, if_neg (fun e => hne e.symm), laws.mul_zero]), hone i hi, if_pos rfl, laws.mul_one]
  rw [e] at h; exact h
theorem wide_full {M : List (List Nat)} {n : Nat} (hM : RowsOk n M) (hl : M.length = n) : (reduceTo (n + n) (wideN M n) n).length = n := by
  have hred := reduceTo_red (wideN_ok hM hl) n (by rw [wideN_len]; exact Nat.le_refl _)
  rw [List.take_of_length_le (by rw [wideN_len]; exact Nat.le_refl _)] at hred
  have hr := rank_of hred.1 hred.2
  rw [wideN_len] at hr
  exact free_rank laws (wide_free hM hl) hr
/-- The document's inverse. -/
def invE (M : List (List Nat)) : Int := if ¬ fits M ∨ M.length ≠ sizeC M then 21 else if (reduceN M).length < M.length then 24 else 0
def invV (M : List (List Nat)) : List (List Nat) := if invE M = 0 then (reduceTo (M.length + M.length) (wideN M M.length) M.length).map (List.drop M.length) else []
theorem idN_get (n k i : Nat) (h : i < k) : (idN n k)[i]? = some (vUnit n i) := by
  rw [idN, List.getElem?_map, List.getElem?_range h]; rfl
def trV (M : List (List Nat)) : List (List Nat) := if fits M then trN M M.length (sizeC M) else []
def idE (n : Int) : Int := if n < 0 ∨ 255 < n then 1 else 0
def idV (n : Int) : List (List Nat) := if n < 0 ∨ 255 < n then [] else idN n.toNat n.toNat
end Go.Proofs.Ytcmjglmagkjdoaa
