/- The laws FieldPowers, FieldSquares and FieldRules answer true. -/
import Derived.Test.YtnknpohnlobgcaaLawsA
namespace Go.Proofs.Ytnknpohnlobgcaa
open Go.RowKit

set_option maxRecDepth 100000 in
set_option maxHeartbeats 1000000 in
theorem powers_any (a : Nat) (n : Int) (ha : a < 256) (hn : n < 9223372036854775808) (w : World) :
    Calls Try.prog 4 #[.int .u8 a, .int .i64 n] w fun e w' => e = .returned (.bool true) ∧ Grown w w' := by
  obtain ⟨p, hp⟩ : ∃ p, powI a n = p := ⟨_, rfl⟩
  obtain ⟨i, hi⟩ : ∃ i, errI n = i := ⟨_, rfl⟩
  obtain ⟨q, hq⟩ : ∃ q, expI n = q := ⟨_, rfl⟩
  obtain ⟨j, hj⟩ : ∃ j, errE n = j := ⟨_, rfl⟩
  obtain ⟨r, hr⟩ : ∃ r, lgN a = r := ⟨_, rfl⟩
  obtain ⟨k, hk⟩ : ∃ k, err0 a = k := ⟨_, rfl⟩
  have HP := Lib.hid hp
  have HI := Lib.hid hi
  have HQ := Lib.hid hq
  have HJ := Lib.hid hj
  have HR := Lib.hid hr
  have HK := Lib.hid hk
  clear hp hi hq hj hr hk
  go_enter Try.func4, Try.ntmps4
  go_wp2_with fail
  refine (pow_int a n p i ha hn HP.out HI.out _).mono ?_
  rintro e w1 ⟨rfl, g1⟩
  go_wp2_with fail
  refine (rpow_int a n p i ha hn HP.out HI.out _).mono ?_
  rintro e w2 ⟨rfl, rfl⟩
  go_wp2_with fail
  refine (exp_int n q j HQ.out HJ.out _).mono ?_
  rintro e w3 ⟨rfl, g3⟩
  go_wp2_with fail
  refine (rexp_int n q j HQ.out HJ.out _).mono ?_
  rintro e w4 ⟨rfl, rfl⟩
  go_wp2_with fail
  refine (log_any a r k ha HR.out HK.out _).mono ?_
  rintro e w5 ⟨rfl, g5⟩
  go_wp2_with fail
  refine (rlog_eq a r k ha HR.out HK.out _).mono ?_
  rintro e w6 ⟨rfl, rfl⟩
  go_wp2_with fail
  refine (awake_any _).mono ?_
  rintro e w7 ⟨rfl, g7⟩
  go_wp2_with fail
  go_ret
  exact ⟨rfl, Grown_trans g1 (Grown_trans g3 (Grown_trans g5 g7))⟩

theorem sq_eq (a v : Nat) (ha : a < 256) (h : mulN a a = v) (w : World) :
    Calls Try.prog 24 #[.int .u8 a] w fun e w' => e = .returned (.int .u8 (v : Int)) ∧ w = w' := by
  go_enter Try.func24, Try.ntmps24
  go_wp2_with fail
  refine (mul_eq a a v ha ha h _).mono ?_
  rintro e w' ⟨rfl, rfl⟩
  go_wp2_with fail
  go_ret
  exact ⟨rfl, rfl⟩
theorem sq_add (a b : Nat) (ha : a < 256) (hb : b < 256) : mulN (a ^^^ b) (a ^^^ b) = mulN a a ^^^ mulN b b := by
  rw [mul_xor_left _ _ _ ha hb, mul_xor_right _ _ _ ha ha hb, mul_xor_right _ _ _ hb ha hb, mul_comm' b a hb ha, Nat.xor_assoc, ← Nat.xor_assoc (mulN a b), Nat.xor_self, Nat.zero_xor]
theorem sq_root (a : Nat) (ha : a < 256) : mulN (powN a 128) (powN a 128) = a := by
  rw [← powN_add a _ _ ha, show 128 + 128 = 256 from rfl, powN_256 a ha]
theorem sq_inj (a b : Nat) (ha : a < 256) (hb : b < 256) (h : mulN a a = mulN b b) : a = b := by
  have h1 := sq_add a b ha hb
  rw [h, Nat.xor_self] at h1
  have h2 := (mul_eq_zero _ _ (xor_lt ha hb) (xor_lt ha hb)).1 h1
  have h3 : a ^^^ b = 0 := by omega
  have e : a ^^^ (a ^^^ b) = b := by rw [← Nat.xor_assoc, Nat.xor_self, Nat.zero_xor]
  rwa [h3, Nat.xor_zero] at e
theorem powI_nat (a n : Nat) : powI a (n : Int) = powN a n := by rw [powI, if_neg (by omega)]; rfl
set_option maxRecDepth 100000 in
set_option maxHeartbeats 1000000 in
theorem squares_any (a b : Nat) (ha : a < 256) (hb : b < 256) (w : World) :
    Calls Try.prog 8 #[.int .u8 a, .int .u8 b] w fun e w' => e = .returned (.bool true) ∧ Grown w w' := by
  obtain ⟨s, hs⟩ : ∃ s, a ^^^ b = s := ⟨_, rfl⟩
  obtain ⟨p, hp⟩ : ∃ p, mulN a a = p := ⟨_, rfl⟩
  obtain ⟨q, hq⟩ : ∃ q, mulN b b = q := ⟨_, rfl⟩
  obtain ⟨t, ht⟩ : ∃ t, mulN s s = t := ⟨_, rfl⟩
  obtain ⟨r, hr⟩ : ∃ r, powI a 128 = r := ⟨_, rfl⟩
  have hs2 : s < 256 := by rw [← hs]; exact xor_lt ha hb
  have hp2 : p < 256 := by rw [← hp]; exact mulN_lt _ ha
  have hq2 : q < 256 := by rw [← hq]; exact mulN_lt _ hb
  have hr2 : r < 256 := by rw [← hr]; exact (powI_nat a 128).symm ▸ powN_lt a 128
  have hpq : p ^^^ q = t := by rw [← hp, ← hq, ← ht, ← hs, sq_add a b ha hb]
  have hrr : mulN r r = a := by rw [← hr]; exact (powI_nat a 128).symm ▸ sq_root a ha
  have h256 : powI a 256 = a := (powI_nat a 256).trans (powN_256 a ha)
  have hiff : p = q ↔ a = b := ⟨fun h => sq_inj a b ha hb (by rw [hp, hq, h]), fun h => by rw [← hp, ← hq, h]⟩
  have HS := Lib.hid hs
  have HP := Lib.hid hp
  have HQ := Lib.hid hq
  have HT := Lib.hid ht
  have HR := Lib.hid hr
  have HPQ := Lib.hid hpq
  have HRR := Lib.hid hrr
  have H256 := Lib.hid h256
  have HIFF := Lib.hid hiff
  clear hs hp hq ht hr hpq hrr h256 hiff
  by_cases hab : a = b
  all_goals
    have bb : ∃ c : Bool, (((a : Nat) : Int) == (b : Int)) = c ∧ (((p : Nat) : Int) == (q : Int)) = c := by
      have h := HIFF.out
      first
        | exact ⟨true, beq_iff_eq.2 (by omega), beq_iff_eq.2 (by have := h.2 hab; omega)⟩
        | exact ⟨false, beq_eq_false_iff_ne.2 (by omega), beq_eq_false_iff_ne.2 (fun h2 => hab (h.1 (by omega)))⟩
    obtain ⟨c, hc1, hc2⟩ := bb
    clear hab HIFF
    go_enter Try.func8, Try.ntmps8
    go_wp2_with fail
    refine (pow_int a 128 r 0 ha (by decide) HR.out rfl _).mono ?_
    rintro e w1 ⟨rfl, g1⟩
    go_wp2_with fail
    refine (pow_int a 256 a 0 ha (by decide) H256.out rfl _).mono ?_
    rintro e w2 ⟨rfl, g2⟩
    go_wp2_with fail
    refine (awake_any _).mono ?_
    rintro e w3 ⟨rfl, g3⟩
    go_wp2_with fail
    refine (add_eq a b s ha hb HS.out _).mono ?_
    rintro e w4 ⟨rfl, rfl⟩
    go_wp2_with fail
    refine (sq_eq s t hs2 HT.out _).mono ?_
    rintro e w4 ⟨rfl, rfl⟩
    go_wp2_with fail
    refine (sq_eq a p ha HP.out _).mono ?_
    rintro e w4 ⟨rfl, rfl⟩
    go_wp2_with fail
    refine (sq_eq b q hb HQ.out _).mono ?_
    rintro e w4 ⟨rfl, rfl⟩
    go_wp2_with fail
    refine (add_eq p q t hp2 hq2 HPQ.out _).mono ?_
    rintro e w4 ⟨rfl, rfl⟩
    go_wp2_with fail
    refine (sq_eq r a hr2 HRR.out _).mono ?_
    rintro e w4 ⟨rfl, rfl⟩
    go_wp2_with fail
    refine (sq_eq a p ha HP.out _).mono ?_
    rintro e w4 ⟨rfl, rfl⟩
    go_wp2_with fail
    refine (sq_eq b q hb HQ.out _).mono ?_
    rintro e w4 ⟨rfl, rfl⟩
    go_wp2_with fail
    go_ret
    exact ⟨rfl, Grown_trans g1 (Grown_trans g2 g3)⟩
end Go.Proofs.Ytnknpohnlobgcaa
