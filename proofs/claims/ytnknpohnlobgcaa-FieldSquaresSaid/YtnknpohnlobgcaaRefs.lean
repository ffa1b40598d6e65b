/- Contracts of the document's own answers: product, inverse, quotient, power, Exp and Log. -/
import Derived.Test.YtnknpohnlobgcaaBase
import Derived.Lib.Hide
import Derived.RowKit3
namespace Go.Proofs.Ytnknpohnlobgcaa
open Go.RowKit

theorem xt_hi_int (x : Nat) (hx : x < 256) (h : 128 ≤ x) : bits .xor .u8 ((x : Int) * 2 % 256) 27 = ((xt x : Nat) : Int) := by
  have e := u8_xor_nat (x * 2 % 256) 27 (by omega) (by decide)
  rw [xt_hi x hx h] at e
  rw [← e]; simp
theorem xt_lo_int (x : Nat) (h : x < 128) : (x : Int) * 2 = ((xt x : Nat) : Int) := by
  rw [← xt_lo x h]; omega

set_option maxRecDepth 100000 in
set_option maxHeartbeats 400000 in
theorem rmul_any (a b : Nat) (ha : a < 256) (hb : b < 256) (w : World) :
    Calls Try.prog 17 #[.int .u8 a, .int .u8 b] w fun e w' => e = .returned (.int .u8 (mulN a b : Nat)) ∧ w = w' := by
  go_enter Try.func17, Try.ntmps17
  go_wp2
  go_loop [0, 1, 5, 6] (fun x y p i => ∃ k : Nat, k ≤ 8 ∧ i = .int .i64 k ∧ x = .int .u8 (xtn k a : Nat) ∧ y = .int .u8 (b / 2 ^ k : Nat) ∧ p = .int .u8 (mulTo a b k : Nat)) (fun _ _ _ i => 8 - (intOf i).toNat)
  case atStart => exact ⟨0, by omega, rfl, rfl, by simp, rfl⟩
  case round =>
    obtain ⟨k, hk, rfl, rfl, rfl, rfl⟩ := hrel
    by_cases hlt : k < 8
    · have hx := xtn_lt k ha
      have hp := mulTo_lt a b k ha
      have hy : b / 2 ^ k < 256 := Nat.lt_of_le_of_lt (Nat.div_le_self _ _) hb
      have hs : Hid (b / 2 ^ (k + 1) = b / 2 ^ k / 2) := by show _ = _; rw [Nat.pow_succ, Nat.div_div_eq_div_mul]
      have HX : Hid (xtn (k + 1) a = xt (xtn k a)) := rfl
      have HM : Hid (b / 2 ^ k % 2 = 1 → mulTo a b k ^^^ xtn k a = mulTo a b (k + 1)) := mulTo_one a b k
      have HN : Hid (b / 2 ^ k % 2 = 0 → mulTo a b k = mulTo a b (k + 1)) := mulTo_none a b k
      generalize xtn k a = x at *
      generalize b / 2 ^ k = y at *
      generalize mulTo a b k = p at *
      have HXO := Lib.hid (u8_xor_nat p x hp hx)
      by_cases h1 : y % 2 = 1
      · by_cases h2 : 128 ≤ x
        · have b1 : ((y : Int) % 2 == 1) = true := beq_iff_eq.2 (by omega)
          have hn : Hid (mulTo a b (k + 1) = p ^^^ x) := ((HM.out h1).symm)
          clear h1 HM HN
          go_wp2
          go_round
          case rel => exact ⟨k + 1, by omega, by go_num, by rw [HX.out, ← xt_hi_int x hx h2], by rw [hs.out]; rfl, by rw [hn.out, ← HXO.out]⟩
          case measure => simp [intOf]; omega
        · have b1 : ((y : Int) % 2 == 1) = true := beq_iff_eq.2 (by omega)
          have hn : Hid (mulTo a b (k + 1) = p ^^^ x) := ((HM.out h1).symm)
          clear h1 HM HN
          go_wp2
          go_round
          case rel => exact ⟨k + 1, by omega, by go_num, by rw [HX.out, ← xt_lo_int x (by omega)], by rw [hs.out]; rfl, by rw [hn.out, ← HXO.out]⟩
          case measure => simp [intOf]; omega
      · by_cases h2 : 128 ≤ x
        · have b1 : ((y : Int) % 2 == 1) = false := beq_eq_false_iff_ne.2 (by omega)
          have hn : Hid (mulTo a b (k + 1) = p) := ((HN.out (by omega)).symm)
          clear h1 HM HN
          go_wp2
          go_round
          case rel => exact ⟨k + 1, by omega, by go_num, by rw [HX.out, ← xt_hi_int x hx h2], by rw [hs.out]; rfl, by rw [hn.out]⟩
          case measure => simp [intOf]; omega
        · have b1 : ((y : Int) % 2 == 1) = false := beq_eq_false_iff_ne.2 (by omega)
          have hn : Hid (mulTo a b (k + 1) = p) := ((HN.out (by omega)).symm)
          clear h1 HM HN
          go_wp2
          go_round
          case rel => exact ⟨k + 1, by omega, by go_num, by rw [HX.out, ← xt_lo_int x (by omega)], by rw [hs.out]; rfl, by rw [hn.out]⟩
          case measure => simp [intOf]; omega
    · obtain rfl : k = 8 := by omega
      go_wp2
      go_ret
      exact ⟨rfl, rfl⟩
set_option maxRecDepth 100000 in
set_option maxHeartbeats 400000 in
theorem rinv_any (a : Nat) (ha : a < 256) (w : World) :
    Calls Try.prog 13 #[.int .u8 a] w fun e w' => e = .returned (.tuple #[.int .u8 (invN a : Nat), .int .i64 (err0 a)]) ∧ w = w' := by
  go_enter Try.func13, Try.ntmps13
  go_wp2
  go_loop [4] (fun i => ∃ k : Nat, 1 ≤ k ∧ k ≤ 256 ∧ i = .int .i64 k ∧ ∀ c, c < k → 1 ≤ c → mulN a c ≠ 1) (fun i => 256 - (intOf i).toNat)
  case atStart => exact ⟨1, by omega, by omega, rfl, fun c h1 h2 => by omega⟩
  case round =>
    obtain ⟨k, hk1, hk, rfl, hno⟩ := hrel
    have HNO := Lib.hid hno
    clear hno
    by_cases hlt : k < 256
    · go_wp2_with fail
      refine (rmul_any a k ha hlt _).mono ?_
      rintro e w' ⟨rfl, rfl⟩
      by_cases h1 : mulN a k = 1
      · have HV : Hid (invN a = k) := (inv_unique a k ha hlt h1).symm
        have HE : Hid (err0 a = 0) := by
          show _ = _
          have : a ≠ 0 := fun e => by subst e; rw [mul_zero_left] at h1; omega
          rw [err0, if_neg this]
        have b1 : (((mulN a k : Nat) : Int) == 1) = true := beq_iff_eq.2 (by omega)
        clear h1
        go_wp2_with fail
        go_ret2
        exact ⟨by rw [HV.out, HE.out]; rfl, rfl⟩
      · have b1 : (((mulN a k : Nat) : Int) == 1) = false := beq_eq_false_iff_ne.2 (by omega)
        have H1 := Lib.hid h1
        clear h1
        go_wp2_with fail
        go_round
        case rel =>
          refine ⟨k + 1, by omega, by omega, by go_num, fun c hc h2 => ?_⟩
          by_cases e : c = k
          · subst e; exact H1.out
          · exact HNO.out c (by omega) h2
        case measure => simp [intOf]; omega
    · have e0 : a = 0 := by
        apply Classical.byContradiction
        intro h
        exact HNO.out (invN a) (by have := invN_lt a; omega) (invN_pos a (by omega)) (mul_inv a ha (by omega))
      subst e0
      go_wp2_with fail
      go_ret2
      exact ⟨rfl, rfl⟩
theorem rdiv_any (a b : Nat) (ha : a < 256) (hb : b < 256) (w : World) :
    Calls Try.prog 11 #[.int .u8 a, .int .u8 b] w fun e w' => e = .returned (.tuple #[.int .u8 (mulN a (invN b) : Nat), .int .i64 (err0 b)]) ∧ w = w' := by
  by_cases h : b = 0
  · subst h
    rw [show mulN a (invN 0) = 0 from mul_zero_right a, show err0 0 = 1 from rfl]
    go_enter Try.func11, Try.ntmps11
    go_wp2_with fail
    refine (rinv_any 0 (by decide) _).mono ?_
    rw [show invN 0 = 0 from rfl, show err0 0 = 1 from rfl]
    rintro e w' ⟨rfl, rfl⟩
    go_wp2_with fail
    go_ret2
    exact ⟨rfl, rfl⟩
  · have HE : err0 b = 0 := by rw [err0, if_neg h]
    rw [HE]
    go_enter Try.func11, Try.ntmps11
    go_wp2_with fail
    refine (rinv_any b hb _).mono ?_
    rw [HE]
    clear HE
    rintro e w' ⟨rfl, rfl⟩
    go_wp2_with fail
    refine (rmul_any a (invN b) ha (invN_lt b) _).mono ?_
    rintro e w' ⟨rfl, rfl⟩
    go_wp2_with fail
    go_ret2
    exact ⟨rfl, rfl⟩
theorem rpow_neg (a : Nat) (n : Int) (hn : n < 0) (w : World) :
    Calls Try.prog 19 #[.int .u8 a, .int .i64 n] w fun e w' => e = .returned (.tuple #[.int .u8 0, .int .i64 1]) ∧ w = w' := by
  go_enter Try.func19, Try.ntmps19
  go_wp2
  go_ret2
  exact ⟨rfl, rfl⟩
set_option maxRecDepth 100000 in
set_option maxHeartbeats 400000 in
theorem rpow_any (a n : Nat) (ha : a < 256) (hn : n < 9223372036854775808) (w : World) :
    Calls Try.prog 19 #[.int .u8 a, .int .i64 n] w fun e w' => e = .returned (.tuple #[.int .u8 (powN a n : Nat), .int .i64 0]) ∧ w = w' := by
  have b0 : decide ((n : Int) < 0) = false := decide_eq_false (by omega)
  go_enter Try.func19, Try.ntmps19
  go_wp2
  go_loop [0, 1, 6] (fun x m p => ∃ X M R : Nat, X < 256 ∧ R < 256 ∧ M ≤ n ∧ x = .int .u8 X ∧ m = .int .i64 M ∧ p = .int .u8 R ∧ mulN R (powN X M) = powN a n) (fun _ m _ => (intOf m).toNat)
  case atStart => exact ⟨a, n, 1, ha, by decide, by omega, rfl, rfl, rfl, mul_one_left _ (powN_lt a n)⟩
  case round =>
    obtain ⟨X, M, R, hX, hR, hM, rfl, rfl, rfl, hi⟩ := hrel
    have HI := Lib.hid hi
    clear hi b0
    by_cases h0 : 0 < M
    · by_cases h1 : M % 2 = 1
      · have b1 : ((M : Int) % 2 == 1) = true := beq_iff_eq.2 (by omega)
        have HO := Lib.hid (pow_odd R X M hR hX h1)
        clear h1
        go_wp2_with fail
        refine (rmul_any R X hR hX _).mono ?_
        rintro e w' ⟨rfl, rfl⟩
        go_wp2_with fail
        refine (rmul_any X X hX hX _).mono ?_
        rintro e w' ⟨rfl, rfl⟩
        go_wp2_with fail
        go_round
        case rel => exact ⟨mulN X X, M / 2, mulN R X, mulN_lt _ hX, mulN_lt _ hR, by omega, rfl, by go_num, rfl, by rw [HO.out]; exact HI.out⟩
        case measure => simp [intOf]; omega
      · have b1 : ((M : Int) % 2 == 1) = false := beq_eq_false_iff_ne.2 (by omega)
        have HO := Lib.hid (pow_even R X M hX (by omega))
        clear h1
        go_wp2_with fail
        refine (rmul_any X X hX hX _).mono ?_
        rintro e w' ⟨rfl, rfl⟩
        go_wp2_with fail
        go_round
        case rel => exact ⟨mulN X X, M / 2, R, mulN_lt _ hX, hR, by omega, rfl, by go_num, rfl, by rw [HO.out]; exact HI.out⟩
        case measure => simp [intOf]; omega
    · have HE : Hid (R = powN a n) := by
        show _ = _
        have h := HI.out
        rw [show M = 0 by omega, powN_zero, mul_one_right R hR] at h
        exact h
      go_wp2_with fail
      go_ret2
      exact ⟨by rw [HE.out]; rfl, rfl⟩
theorem rexp_in (n : Nat) (hn : n < 255) (w : World) : Calls Try.prog 21 #[.int .i64 n] w fun e w' => e = .returned (.tuple #[.int .u8 (pw n : Nat), .int .i64 0]) ∧ w = w' := by
  have b1 : decide ((n : Int) < 0) = false := decide_eq_false (by omega)
  have b2 : decide (254 < (n : Int)) = false := decide_eq_false (by omega)
  go_enter Try.func21, Try.ntmps21
  go_wp2_with fail
  refine (rpow_any 3 n (by decide) (by omega) _).mono ?_
  rw [powN_three]
  rintro e w1 ⟨rfl, rfl⟩
  go_wp2_with fail
  go_ret2
  exact ⟨rfl, rfl⟩
theorem rexp_out (n : Int) (hn : n < 0 ∨ 255 ≤ n) (w : World) : Calls Try.prog 21 #[.int .i64 n] w fun e w' => e = .returned (.tuple #[.int .u8 0, .int .i64 1]) ∧ w = w' := by
  rcases hn with hn | hn
  · have b1 : decide ((n : Int) < 0) = true := decide_eq_true (by omega)
    go_enter Try.func21, Try.ntmps21
    go_wp2
    go_ret2
    exact ⟨rfl, rfl⟩
  · have b1 : decide ((n : Int) < 0) = false := decide_eq_false (by omega)
    have b2 : decide (254 < (n : Int)) = true := decide_eq_true (by omega)
    go_enter Try.func21, Try.ntmps21
    go_wp2
    go_ret2
    exact ⟨rfl, rfl⟩
set_option maxRecDepth 100000 in
set_option maxHeartbeats 400000 in
theorem rlog_any (a : Nat) (ha : a < 256) (w : World) :
    Calls Try.prog 23 #[.int .u8 a] w fun e w' => e = .returned (.tuple #[.int .i64 (lgN a : Nat), .int .i64 (err0 a)]) ∧ w = w' := by
  go_enter Try.func23, Try.ntmps23
  go_wp2
  go_loop [4, 5] (fun p i => ∃ k : Nat, k ≤ 255 ∧ i = .int .i64 k ∧ p = .int .u8 (pw k : Nat) ∧ (1 ≤ a → k ≤ lg a)) (fun _ i => 255 - (intOf i).toNat)
  case atStart => exact ⟨0, by omega, rfl, rfl, fun _ => by omega⟩
  case round =>
    obtain ⟨k, hk, rfl, rfl, hl⟩ := hrel
    have HL := Lib.hid hl
    clear hl
    by_cases hlt : k < 255
    · have hp := pw_lt k
      by_cases h1 : pw k = a
      · have b1 : (((pw k : Nat) : Int) == (a : Int)) = true := beq_iff_eq.2 (by omega)
        have hne : a ≠ 0 := by have := pw_pos' k; omega
        have HR : Hid (lgN a = k) := by show _ = _; rw [lgN, if_neg hne]; exact lg_hit a k hlt h1
        have HE : Hid (err0 a = 0) := by show _ = _; rw [err0, if_neg hne]
        clear h1 hne
        go_wp2_with fail
        go_ret2
        exact ⟨by rw [HR.out, HE.out]; rfl, rfl⟩
      · have b1 : (((pw k : Nat) : Int) == (a : Int)) = false := beq_eq_false_iff_ne.2 (by omega)
        have HN : Hid (1 ≤ a → k + 1 ≤ lg a) := fun h => lg_next a k ha h (HL.out h) h1
        have H3 := Lib.hid (mul_pw3 k)
        clear h1
        go_wp2_with fail
        refine (rmul_any (pw k) 3 hp (by decide) _).mono ?_
        rw [H3.out]
        rintro e w' ⟨rfl, rfl⟩
        go_wp2_with fail
        go_round
        case rel => exact ⟨k + 1, by omega, by go_num, rfl, HN.out⟩
        case measure => simp [intOf]; omega
    · have e0 : a = 0 := by
        apply Classical.byContradiction
        intro h
        have h2 := HL.out (by omega)
        have h3 := lg_lt a ha (by omega)
        omega
      subst e0
      go_wp2_with fail
      go_ret2
      exact ⟨rfl, rfl⟩
end Go.Proofs.Ytnknpohnlobgcaa
