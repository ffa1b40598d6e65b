/- Contracts of the landed sum, the product with x, the product. -/
import Derived.Test.YtcjjhblgejkkeaaGreatProg
import Derived.Test.YtcjjhblgejkkeaaGreatPlain
import Derived.WalkKit
import Derived.Lib.Hide
namespace Go.Proofs.YtcjjhblgejkkeaaGreat
open Go.RowKit
set_option linter.unusedVariables false
set_option linter.unusedSimpArgs false

theorem ret_int {k : IntKind} {a b : Int} (h : a = b) : Ending.returned (.int k a) = .returned (.int k b) := by rw [h]

theorem add_any (a b : Nat) (ha : a < 256) (hb : b < 256) (w : World) :
    Calls Tryz.prog 114 #[.int .u8 a, .int .u8 b] w fun e w' => e = .returned (.int .u8 ((a ^^^ b : Nat) : Int)) ∧ w = w' := by
  go_enter Tryz.func114, Tryz.ntmps114
  go_wp2
  go_ret
  exact ⟨ret_int (u8_xor_nat a b ha hb), rfl⟩
theorem timesX_any (a : Nat) (ha : a < 256) (w : World) :
    Calls Tryz.prog 135 #[.int .u8 a] w fun e w' => e = .returned (.int .u8 (xt a : Nat)) ∧ w = w' := by
  go_enter Tryz.func135, Tryz.ntmps135
  go_wp2
  go_ret
  exact ⟨ret_int (u8_xor_nat (a * 2 % 256) (27 * (a / 128)) (by omega) (by omega)), rfl⟩

set_option maxHeartbeats 400000 in
theorem mul_any (a b : Nat) (ha : a < 256) (hb : b < 256) (w : World) :
    Calls Tryz.prog 130 #[.int .u8 a, .int .u8 b] w fun e w' => e = .returned (.int .u8 (mulN a b : Nat)) ∧ w = w' := by
  go_enter Tryz.func130, Tryz.ntmps130
  go_wp2
  go_loop [0, 5, 7] (fun x p i => ∃ k : Nat, k ≤ 8 ∧ i = .int .i64 k ∧ x = .int .u8 (xtn k a : Nat) ∧ p = .int .u8 (mulTo a b k : Nat)) (fun _ _ i => 8 - (intOf i).toNat)
  case atStart => exact ⟨0, by omega, rfl, rfl, rfl⟩
  case round =>
    obtain ⟨k, hk, rfl, rfl, rfl⟩ := hrel
    by_cases hlt : k < 8
    · go_wp2_with fail
      rw [stepbit_int _ b k (xtn_lt k ha) hb]
      refine (add_any _ _ (mulTo_lt a b k ha) (stepbit_lt _ b k (xtn_lt k ha)) _).mono ?_
      rintro e w' ⟨rfl, rfl⟩
      go_wp2_with fail
      refine (timesX_any _ (xtn_lt k ha) _).mono ?_
      rintro e w' ⟨rfl, rfl⟩
      go_wp2_with fail
      go_round
      case rel => exact ⟨k + 1, by omega, by go_num, rfl, rfl⟩
      case measure => simp [intOf]; omega
    · obtain rfl : k = 8 := by omega
      go_wp2
      go_ret
      exact ⟨rfl, rfl⟩

theorem add_eq (a b v : Nat) (ha : a < 256) (hb : b < 256) (h : a ^^^ b = v) (w : World) :
    Calls Tryz.prog 114 #[.int .u8 a, .int .u8 b] w fun e w' => e = .returned (.int .u8 (v : Int)) ∧ w = w' := by
  subst h; exact add_any a b ha hb w
theorem mul_eq (a b v : Nat) (ha : a < 256) (hb : b < 256) (h : mulN a b = v) (w : World) :
    Calls Tryz.prog 130 #[.int .u8 a, .int .u8 b] w fun e w' => e = .returned (.int .u8 (v : Int)) ∧ w = w' := by
  subst h; exact mul_any a b ha hb w
end Go.Proofs.YtcjjhblgejkkeaaGreat
