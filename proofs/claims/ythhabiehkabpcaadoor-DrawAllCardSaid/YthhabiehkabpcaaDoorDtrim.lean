/- bytes.TrimRight with the cutset of one nought. -/
import Derived.Test.YthhabiehkabpcaaDoorNew
namespace Go.Proofs.YthhabiehkabpcaaDoor
open Go.RowKit
set_option linter.unusedVariables false
set_option linter.unusedSimpArgs false
set_option maxRecDepth 100000 in
set_option maxHeartbeats 2000000 in
theorem trimb_any (B n c : Nat) (A : Option Addr) (xs : List Nat) (w : World) (h : Bytes w B A n xs) (hc : n ≤ c) (hn : n ≤ 140737488355328) :
    Calls Tryd.prog 16 #[.slice A n c, .int .u8 0] w fun e w' => (∃ j, j ≤ n ∧ e = .returned (.slice A j c) ∧ ∀ i, j ≤ i → i < n → xs.getD i 0 = 0) ∧ w = w' := by
  go_enter Tryd.func16, Tryd.ntmps16
  go_wp2_with fail
  go_loop [0] (fun s => ∃ j : Nat, j ≤ n ∧ s = .slice A j c ∧ ∀ i, j ≤ i → i < n → xs.getD i 0 = 0) (fun s => match s with | .slice _ j _ => j | _ => 0)
  case atStart => exact ⟨n, Nat.le_refl _, rfl, fun i a b => by omega⟩
  case round =>
    obtain ⟨j, hj, rfl, hz⟩ := hrel
    have HZ := Lib.hid hz
    clear hz
    by_cases hlt : 0 < j
    · obtain ⟨b, off, rfl, hb, hx⟩ := h.at_ (k := j - 1) (by omega)
      have e0 : (0 : Int) < (j : Int) := by omega
      have e1 : IntKind.i64.wrap ((j : Int) - 1) = ((j - 1 : Nat) : Int) := by rw [IntWalk.i64_in _ (by omega)]; omega
      by_cases h0 : xs.getD (j - 1) 0 = 0
      · rw [h0] at hx
        have hs : Hid (∀ i, j - 1 ≤ i → i < n → xs.getD i 0 = 0) := fun i a b => by
          by_cases e : i = j - 1
          · subst e; exact h0
          · exact HZ.out i (by omega) b
        clear h0
        obtain ⟨k, hk⟩ : ∃ k, j = k + 1 := ⟨j - 1, by omega⟩
        subst hk
        rw [Nat.add_sub_cancel] at *
        have e2 : (0 : Int) ≤ (k : Int) := Int.natCast_nonneg _
        have e3 : (k : Int) < ((k + 1 : Nat) : Int) := by omega
        have e4 : (k : Int) ≤ (c : Int) := by omega
        go_wp2_with fail
        exact ⟨⟨k, by omega, rfl, hs.out⟩, by show k < k + 1; omega⟩
      · have hd : ((xs.getD (j - 1) 0 : Nat) : Int) ≠ 0 := by omega
        have hb' : (((xs.getD (j - 1) 0 : Nat) : Int) == 0) = false := beq_eq_false_iff_ne.2 hd
        generalize xs.getD (j - 1) 0 = x at *
        clear h0 hd
        obtain ⟨k, hk⟩ : ∃ k, j = k + 1 := ⟨j - 1, by omega⟩
        subst hk
        rw [Nat.add_sub_cancel] at *
        have e2 : (0 : Int) ≤ (k : Int) := Int.natCast_nonneg _
        have e3 : (k : Int) < ((k + 1 : Nat) : Int) := by omega
        go_wp2_with fail
        go_ret
        exact ⟨⟨k + 1, by omega, rfl, HZ.out⟩, rfl⟩
    · obtain rfl : j = 0 := by omega
      go_wp2_with fail
      go_ret
      exact ⟨⟨0, by omega, rfl, HZ.out⟩, rfl⟩
set_option maxRecDepth 100000 in
theorem trim_any (B n c : Nat) (A : Option Addr) (xs : List Nat) (w : World) (h : Bytes w B A n xs) (h1 : 1 ≤ n) (hc : n ≤ c) (hn : n ≤ 140737488355328) :
    Calls Tryd.prog 8 #[.slice A n c, .string ⟨#[0]⟩] w fun e w' => (∃ j, j ≤ n ∧ e = .returned (.slice A j c) ∧ ∀ i, j ≤ i → i < n → xs.getD i 0 = 0) ∧ w = w' := by
  have HT := Lib.hid (trimb_any B n c A xs w h hc hn)
  have e0 : ((n : Int) == 0) = false := beq_eq_false_iff_ne.2 (by omega)
  have e1 : ¬ (n : Int) = 0 := by omega
  have e2 : ¬ n = 0 := by omega
  clear h
  go_enter Tryd.func8, Tryd.ntmps8
  go_wp2_with fail
  refine HT.out.mono ?_
  rintro e w1 ⟨⟨j, hj, rfl, hz⟩, rfl⟩
  have HZ := Lib.hid hz
  clear hz
  go_wp2_with fail
  go_ret
  exact ⟨⟨j, hj, rfl, HZ.out⟩, rfl⟩
end Go.Proofs.YthhabiehkabpcaaDoor
