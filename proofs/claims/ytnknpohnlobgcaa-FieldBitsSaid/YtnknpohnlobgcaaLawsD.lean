/- The law FieldBits answers true. -/
import Derived.Test.YtnknpohnlobgcaaLawsA
namespace Go.Proofs.Ytnknpohnlobgcaa
open Go.RowKit
theorem mul_two (x : Nat) : mulN x 2 = xt x := by
  simp [mulN, mulTo, xtn]
theorem hi64_all : ∀ x : Nat, x < 256 → 128 ≤ x → bits .xor .i64 ((x : Int) * 2) 283 % 256 = ((xt x : Nat) : Int) := by decide +kernel
theorem hi64 (x : Nat) (hx : x < 256) (h : 128 ≤ x) : bits .xor .i64 ((x : Int) * 2) 283 % 256 = ((xt x : Nat) : Int) := hi64_all x hx h
set_option maxRecDepth 100000 in
set_option maxHeartbeats 1000000 in
theorem bits_any (a b : Nat) (ha : a < 256) (hb : b < 256) (w : World) :
    Calls Try.prog 7 #[.int .u8 a, .int .u8 b] w fun e w' => e = .returned (.bool true) ∧ Grown w w' := by
  go_enter Try.func7, Try.ntmps7
  go_wp2
  go_loop [5, 6, 10] (fun s x i => ∃ k : Nat, k ≤ 8 ∧ i = .int .i64 k ∧ x = .int .u8 (xtn k a : Nat) ∧ s = .int .u8 (mulTo a b k : Nat)) (fun _ _ i => 8 - (intOf i).toNat)
  case atStart => exact ⟨0, by omega, rfl, rfl, rfl⟩
  case round =>
    obtain ⟨k, hk, rfl, rfl, rfl⟩ := hrel
    by_cases hlt : k < 8
    · have hx := xtn_lt k ha
      have hp := mulTo_lt a b k ha
      have HX : Hid (xtn (k + 1) a = xt (xtn k a)) := rfl
      have HM : Hid (b / 2 ^ k % 2 = 1 → mulTo a b k ^^^ xtn k a = mulTo a b (k + 1)) := mulTo_one a b k
      have HN : Hid (b / 2 ^ k % 2 = 0 → mulTo a b k = mulTo a b (k + 1)) := mulTo_none a b k
      have hbit := bit_int b k hb
      generalize xtn k a = x at *
      generalize mulTo a b k = p at *
      have HT := Lib.hid (mul_two x)
      by_cases h1 : b / 2 ^ k % 2 = 1
      · have b1 : (bits .and .u8 ((b : Int) / 2 ^ k) 1 == 1) = true := by rw [hbit, h1]; rfl
        have hn : Hid (p ^^^ x = mulTo a b (k + 1)) := HM.out h1
        clear hbit h1 HM HN
        by_cases h2 : 128 ≤ x
        · skip
          have hxx := hi64 x hx h2
          go_wp2_with fail
          refine (add_eq p x _ hp hx hn.out _).mono ?_
          rintro e w' ⟨rfl, rfl⟩
          go_wp2_with fail
          refine (mul_eq x 2 _ hx (by decide) HT.out _).mono ?_
          rintro e w' ⟨rfl, rfl⟩
          go_wp2_with fail
          go_round
          case rel => exact ⟨k + 1, by omega, by go_num, by rw [HX.out, ← hxx], rfl⟩
          case measure => simp [intOf]; omega
        · skip
          have hne : (((xt x : Nat) : Int) != (x : Int) * 2) = false := by rw [bne_eq_false_iff_eq, xt_lo_int x (by omega)]
          have HLO := Lib.hid (xt_lo_int x (by omega))
          go_wp2_with fail
          refine (add_eq p x _ hp hx hn.out _).mono ?_
          rintro e w' ⟨rfl, rfl⟩
          go_wp2_with fail
          refine (mul_eq x 2 _ hx (by decide) HT.out _).mono ?_
          rintro e w' ⟨rfl, rfl⟩
          go_wp2_with fail
          go_round
          case rel => exact ⟨k + 1, by omega, by go_num, by rw [HX.out, ← HLO.out], rfl⟩
          case measure => simp [intOf]; omega
      · have b1 : (bits .and .u8 ((b : Int) / 2 ^ k) 1 == 1) = false := by rw [hbit, show b / 2 ^ k % 2 = 0 by omega]; rfl
        have hn : Hid (p = mulTo a b (k + 1)) := HN.out (by omega)
        clear hbit h1 HM HN
        by_cases h2 : 128 ≤ x
        · skip
          have hxx := hi64 x hx h2
          go_wp2_with fail
          refine (mul_eq x 2 _ hx (by decide) HT.out _).mono ?_
          rintro e w' ⟨rfl, rfl⟩
          go_wp2_with fail
          go_round
          case rel => exact ⟨k + 1, by omega, by go_num, by rw [HX.out, ← hxx], by rw [← hn.out]⟩
          case measure => simp [intOf]; omega
        · skip
          have hne : (((xt x : Nat) : Int) != (x : Int) * 2) = false := by rw [bne_eq_false_iff_eq, xt_lo_int x (by omega)]
          have HLO := Lib.hid (xt_lo_int x (by omega))
          go_wp2_with fail
          refine (mul_eq x 2 _ hx (by decide) HT.out _).mono ?_
          rintro e w' ⟨rfl, rfl⟩
          go_wp2_with fail
          go_round
          case rel => exact ⟨k + 1, by omega, by go_num, by rw [HX.out, ← HLO.out], by rw [← hn.out]⟩
          case measure => simp [intOf]; omega
    · obtain rfl : k = 8 := by omega
      go_wp2_with fail
      refine (awake_any _).mono ?_
      rintro e w1 ⟨rfl, g1⟩
      go_wp2_with fail
      refine (mul_eq a b (mulTo a b 8) ha hb rfl _).mono ?_
      rintro e w2 ⟨rfl, rfl⟩
      go_wp2_with fail
      go_ret
      exact ⟨rfl, g1⟩
end Go.Proofs.Ytnknpohnlobgcaa
