/- The contract of the document's own product; sums and products whose answer has a name. -/
import Derived.Test.YtcjjhblgejkkeaaGreatProg
import Derived.Test.YtcjjhblgejkkeaaGreatPlain
import Derived.WalkKit
import Derived.Lib.Hide
namespace Go.Proofs.YtcjjhblgejkkeaaGreat
open Go.RowKit

theorem xt_hi_int (x : Nat) (hx : x < 256) (h : 128 ≤ x) : bits .xor .u8 ((x : Int) * 2 % 256) 27 = ((xt x : Nat) : Int) := by
  have e := u8_xor_nat (x * 2 % 256) 27 (by omega) (by decide)
  rw [xt_hi x hx h] at e
  rw [← e]; simp
theorem xt_lo_int (x : Nat) (h : x < 128) : (x : Int) * 2 = ((xt x : Nat) : Int) := by
  rw [← xt_lo x h]; omega

set_option maxRecDepth 100000 in
set_option maxHeartbeats 400000 in
theorem rmul_any (a b : Nat) (ha : a < 256) (hb : b < 256) (w : World) :
    Calls Tryz.prog 128 #[.int .u8 a, .int .u8 b] w fun e w' => e = .returned (.int .u8 (mulN a b : Nat)) ∧ w = w' := by
  go_enter Tryz.func128, Tryz.ntmps128
  go_wp2
  go_loop [0, 1, 5, 6] (fun x y p i => ∃ k : Nat, k ≤ 8 ∧ i = .int .i64 k ∧ x = .int .u8 (xtn k a : Nat) ∧ y = .int .u8 (b / 2 ^ k : Nat) ∧ p = .int .u8 (mulTo a b k : Nat)) (fun _ _ _ i => 8 - (intOf i).toNat)
  case atStart => exact ⟨0, by omega, rfl, rfl, by simp, rfl⟩
  case round =>
    obtain ⟨k, hk, rfl, rfl, rfl, rfl⟩ := hrel
    by_cases hlt : k < 8
    · have hx := xtn_lt k ha
      have hp := mulTo_lt a b k ha
      have hy : b / 2 ^ k < 256 := Nat.lt_of_le_of_lt (Nat.div_le_self _ _) hb
      have hs : Hid (b / 2 ^ (k + 1) = b / 2 ^ k / 2) := by show _ = _; rw [Nat.pow_succ, Nat.div_div_eq_div_mul]
      have HX : Hid (xtn (k + 1) a = xt (xtn k a)) := rfl
      have HM : Hid (b / 2 ^ k % 2 = 1 → mulTo a b k ^^^ xtn k a = mulTo a b (k + 1)) := mulTo_one a b k
      have HN : Hid (b / 2 ^ k % 2 = 0 → mulTo a b k = mulTo a b (k + 1)) := mulTo_none a b k
      generalize xtn k a = x at *
      generalize b / 2 ^ k = y at *
      generalize mulTo a b k = p at *
      have HXO := Lib.hid (u8_xor_nat p x hp hx)
      by_cases h1 : y % 2 = 1
      · by_cases h2 : 128 ≤ x
        · have b1 : ((y : Int) % 2 == 1) = true := beq_iff_eq.2 (by omega)
          have hn : Hid (mulTo a b (k + 1) = p ^^^ x) := ((HM.out h1).symm)
          clear h1 HM HN
          go_wp2
          go_round
          case rel => exact ⟨k + 1, by omega, by go_num, by rw [HX.out, ← xt_hi_int x hx h2], by rw [hs.out]; rfl, by rw [hn.out, ← HXO.out]⟩
          case measure => simp [intOf]; omega
        · have b1 : ((y : Int) % 2 == 1) = true := beq_iff_eq.2 (by omega)
          have hn : Hid (mulTo a b (k + 1) = p ^^^ x) := ((HM.out h1).symm)
          clear h1 HM HN
          go_wp2
          go_round
          case rel => exact ⟨k + 1, by omega, by go_num, by rw [HX.out, ← xt_lo_int x (by omega)], by rw [hs.out]; rfl, by rw [hn.out, ← HXO.out]⟩
          case measure => simp [intOf]; omega
      · by_cases h2 : 128 ≤ x
        · have b1 : ((y : Int) % 2 == 1) = false := beq_eq_false_iff_ne.2 (by omega)
          have hn : Hid (mulTo a b (k + 1) = p) := ((HN.out (by omega)).symm)
          clear h1 HM HN
          go_wp2
          go_round
          case rel => exact ⟨k + 1, by omega, by go_num, by rw [HX.out, ← xt_hi_int x hx h2], by rw [hs.out]; rfl, by rw [hn.out]⟩
          case measure => simp [intOf]; omega
        · have b1 : ((y : Int) % 2 == 1) = false := beq_eq_false_iff_ne.2 (by omega)
          have hn : Hid (mulTo a b (k + 1) = p) := ((HN.out (by omega)).symm)
          clear h1 HM HN
          go_wp2
          go_round
          case rel => exact ⟨k + 1, by omega, by go_num, by rw [HX.out, ← xt_lo_int x (by omega)], by rw [hs.out]; rfl, by rw [hn.out]⟩
          case measure => simp [intOf]; omega
    · obtain rfl : k = 8 := by omega
      go_wp2
      go_ret
      exact ⟨rfl, rfl⟩
theorem rmul_eq (a b v : Nat) (ha : a < 256) (hb : b < 256) (h : mulN a b = v) (w : World) :
    Calls Tryz.prog 128 #[.int .u8 a, .int .u8 b] w fun e w' => e = .returned (.int .u8 (v : Int)) ∧ w = w' := by
  subst h; exact rmul_any a b ha hb w
end Go.Proofs.YtcjjhblgejkkeaaGreat
