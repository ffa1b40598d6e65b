/- The contract of the document's own inverse. -/
import Derived.Test.YtcjjhblgejkkeaaGreatMulB
import Derived.RowKit3
namespace Go.Proofs.YtcjjhblgejkkeaaGreat
open Go.RowKit
set_option maxRecDepth 100000 in
set_option maxHeartbeats 400000 in
theorem rinv_any (a : Nat) (ha : a < 256) (w : World) :
    Calls Tryz.prog 97 #[.int .u8 a] w fun e w' => e = .returned (.tuple #[.int .u8 (invN a : Nat), .int .i64 (err0 a)]) ∧ w = w' := by
  go_enter Tryz.func97, Tryz.ntmps97
  go_wp2
  go_loop [4] (fun i => ∃ k : Nat, 1 ≤ k ∧ k ≤ 256 ∧ i = .int .i64 k ∧ ∀ c, c < k → 1 ≤ c → mulN a c ≠ 1) (fun i => 256 - (intOf i).toNat)
  case atStart => exact ⟨1, by omega, by omega, rfl, fun c h1 h2 => by omega⟩
  case round =>
    obtain ⟨k, hk1, hk, rfl, hno⟩ := hrel
    have HNO := Lib.hid hno
    clear hno
    by_cases hlt : k < 256
    · go_wp2_with fail
      refine (rmul_any a k ha hlt _).mono ?_
      rintro e w' ⟨rfl, rfl⟩
      by_cases h1 : mulN a k = 1
      · have HV : Hid (invN a = k) := (inv_unique a k ha hlt h1).symm
        have HE : Hid (err0 a = 0) := by
          show _ = _
          have : a ≠ 0 := fun e => by subst e; rw [mul_zero_left] at h1; omega
          rw [err0, if_neg this]
        have b1 : (((mulN a k : Nat) : Int) == 1) = true := beq_iff_eq.2 (by omega)
        clear h1
        go_wp2_with fail
        go_ret2
        exact ⟨by rw [HV.out, HE.out]; rfl, rfl⟩
      · have b1 : (((mulN a k : Nat) : Int) == 1) = false := beq_eq_false_iff_ne.2 (by omega)
        have H1 := Lib.hid h1
        clear h1
        go_wp2_with fail
        go_round
        case rel =>
          refine ⟨k + 1, by omega, by omega, by go_num, fun c hc h2 => ?_⟩
          by_cases e : c = k
          · subst e; exact H1.out
          · exact HNO.out c (by omega) h2
        case measure => simp [intOf]; omega
    · have e0 : a = 0 := by
        apply Classical.byContradiction
        intro h
        exact HNO.out (invN a) (by have := invN_lt a; omega) (invN_pos a (by omega)) (mul_inv a ha (by omega))
      subst e0
      go_wp2_with fail
      go_ret2
      exact ⟨rfl, rfl⟩
end Go.Proofs.YtcjjhblgejkkeaaGreat
