/- The contracts of the field in the form in which the laws ask for them; FieldPairs answers true. -/
import Derived.Test.YtnknpohnlobgcaaPows
import Derived.Test.YtnknpohnlobgcaaRefs
namespace Go.Proofs.Ytnknpohnlobgcaa
open Go.RowKit

theorem err0_zero : err0 0 = 1 := rfl
theorem err0_pos (a : Nat) (h : 1 ≤ a) : err0 a = 0 := by rw [err0, if_neg (by omega)]
theorem add_eq (a b v : Nat) (ha : a < 256) (hb : b < 256) (h : a ^^^ b = v) (w : World) :
    Calls Try.prog 15 #[.int .u8 a, .int .u8 b] w fun e w' => e = .returned (.int .u8 (v : Int)) ∧ w = w' := by
  subst h; exact add_any a b ha hb w
theorem mul_eq (a b v : Nat) (ha : a < 256) (hb : b < 256) (h : mulN a b = v) (w : World) :
    Calls Try.prog 16 #[.int .u8 a, .int .u8 b] w fun e w' => e = .returned (.int .u8 (v : Int)) ∧ w = w' := by
  subst h; exact mul_any a b ha hb w
theorem rmul_eq (a b v : Nat) (ha : a < 256) (hb : b < 256) (h : mulN a b = v) (w : World) :
    Calls Try.prog 17 #[.int .u8 a, .int .u8 b] w fun e w' => e = .returned (.int .u8 (v : Int)) ∧ w = w' := by
  subst h; exact rmul_any a b ha hb w
theorem inv_any (a v : Nat) (i : Int) (ha : a < 256) (h : invN a = v) (hi : err0 a = i) (w : World) :
    Calls Try.prog 12 #[.int .u8 a] w fun e w' => e = .returned (.tuple #[.int .u8 (v : Int), .int .i64 i]) ∧ Grown w w' := by
  subst h; subst hi
  by_cases h0 : a = 0
  · subst h0; exact inv_zero w
  · rw [err0_pos a (by omega)]; exact inv_pos a ha (by omega) w
theorem rinv_eq (a v : Nat) (i : Int) (ha : a < 256) (h : invN a = v) (hi : err0 a = i) (w : World) :
    Calls Try.prog 13 #[.int .u8 a] w fun e w' => e = .returned (.tuple #[.int .u8 (v : Int), .int .i64 i]) ∧ w = w' := by
  subst h; subst hi; exact rinv_any a ha w
theorem div_any (a b v : Nat) (i : Int) (ha : a < 256) (hb : b < 256) (h : mulN a (invN b) = v) (hi : err0 b = i) (w : World) :
    Calls Try.prog 10 #[.int .u8 a, .int .u8 b] w fun e w' => e = .returned (.tuple #[.int .u8 (v : Int), .int .i64 i]) ∧ Grown w w' := by
  subst h; subst hi
  by_cases h0 : b = 0
  · subst h0; rw [show mulN a (invN 0) = 0 from mul_zero_right a]; exact div_zero a w
  · rw [err0_pos b (by omega)]; exact div_pos a b ha hb (by omega) w
theorem rdiv_eq (a b v : Nat) (i : Int) (ha : a < 256) (hb : b < 256) (h : mulN a (invN b) = v) (hi : err0 b = i) (w : World) :
    Calls Try.prog 11 #[.int .u8 a, .int .u8 b] w fun e w' => e = .returned (.tuple #[.int .u8 (v : Int), .int .i64 i]) ∧ w = w' := by
  subst h; subst hi; exact rdiv_any a b ha hb w
theorem log_any (a v : Nat) (i : Int) (ha : a < 256) (h : lgN a = v) (hi : err0 a = i) (w : World) :
    Calls Try.prog 22 #[.int .u8 a] w fun e w' => e = .returned (.tuple #[.int .i64 (v : Int), .int .i64 i]) ∧ Grown w w' := by
  subst h; subst hi
  by_cases h0 : a = 0
  · subst h0; exact log_zero w
  · rw [err0_pos a (by omega), lgN, if_neg h0]; exact log_pos a ha (by omega) w
theorem rlog_eq (a v : Nat) (i : Int) (ha : a < 256) (h : lgN a = v) (hi : err0 a = i) (w : World) :
    Calls Try.prog 23 #[.int .u8 a] w fun e w' => e = .returned (.tuple #[.int .i64 (v : Int), .int .i64 i]) ∧ w = w' := by
  subst h; subst hi; exact rlog_any a ha w
/-- Power and Exp at any number: what they answer. -/
def powI (a : Nat) (n : Int) : Nat := if n < 0 then 0 else powN a n.toNat
def errI (n : Int) : Int := if n < 0 then 1 else 0
def expI (n : Int) : Nat := if n < 0 ∨ 255 ≤ n then 0 else pw n.toNat
def errE (n : Int) : Int := if n < 0 ∨ 255 ≤ n then 1 else 0
theorem pow_int (a : Nat) (n : Int) (v : Nat) (i : Int) (ha : a < 256) (hn : n < 9223372036854775808) (h : powI a n = v) (hi : errI n = i) (w : World) :
    Calls Try.prog 18 #[.int .u8 a, .int .i64 n] w fun e w' => e = .returned (.tuple #[.int .u8 (v : Int), .int .i64 i]) ∧ Grown w w' := by
  subst h; subst hi
  by_cases h0 : n < 0
  · rw [powI, errI, if_pos h0, if_pos h0]; exact pow_neg a n h0 w
  · rw [powI, errI, if_neg h0, if_neg h0]
    obtain ⟨m, rfl⟩ := Int.eq_ofNat_of_zero_le (by omega : 0 ≤ n)
    exact pow_any a m ha (by omega) w
theorem rpow_int (a : Nat) (n : Int) (v : Nat) (i : Int) (ha : a < 256) (hn : n < 9223372036854775808) (h : powI a n = v) (hi : errI n = i) (w : World) :
    Calls Try.prog 19 #[.int .u8 a, .int .i64 n] w fun e w' => e = .returned (.tuple #[.int .u8 (v : Int), .int .i64 i]) ∧ w = w' := by
  subst h; subst hi
  by_cases h0 : n < 0
  · rw [powI, errI, if_pos h0, if_pos h0]; exact rpow_neg a n h0 w
  · rw [powI, errI, if_neg h0, if_neg h0]
    obtain ⟨m, rfl⟩ := Int.eq_ofNat_of_zero_le (by omega : 0 ≤ n)
    exact rpow_any a m ha (by omega) w
theorem exp_int (n : Int) (v : Nat) (i : Int) (h : expI n = v) (hi : errE n = i) (w : World) :
    Calls Try.prog 20 #[.int .i64 n] w fun e w' => e = .returned (.tuple #[.int .u8 (v : Int), .int .i64 i]) ∧ Grown w w' := by
  subst h; subst hi
  by_cases h0 : n < 0 ∨ 255 ≤ n
  · rw [expI, errE, if_pos h0, if_pos h0]; exact exp_out n h0 w
  · rw [expI, errE, if_neg h0, if_neg h0]
    obtain ⟨m, rfl⟩ := Int.eq_ofNat_of_zero_le (by omega : 0 ≤ n)
    exact exp_in m (by omega) w
theorem rexp_int (n : Int) (v : Nat) (i : Int) (h : expI n = v) (hi : errE n = i) (w : World) :
    Calls Try.prog 21 #[.int .i64 n] w fun e w' => e = .returned (.tuple #[.int .u8 (v : Int), .int .i64 i]) ∧ w = w' := by
  subst h; subst hi
  by_cases h0 : n < 0 ∨ 255 ≤ n
  · rw [expI, errE, if_pos h0, if_pos h0]; exact rexp_out n h0 w
  · rw [expI, errE, if_neg h0, if_neg h0]
    obtain ⟨m, rfl⟩ := Int.eq_ofNat_of_zero_le (by omega : 0 ≤ n)
    exact rexp_in m (by omega) w
theorem beq_nat (v : Nat) : (((v : Nat) : Int) == (v : Int)) = true := beq_iff_eq.2 rfl

/-! ### FieldPairs -/
set_option maxRecDepth 100000 in
set_option maxHeartbeats 1000000 in
theorem pairs_any (a b : Nat) (ha : a < 256) (hb : b < 256) (w : World) :
    Calls Try.prog 3 #[.int .u8 a, .int .u8 b] w fun e w' => e = .returned (.bool true) ∧ Grown w w' := by
  obtain ⟨s, hs⟩ : ∃ s, a ^^^ b = s := ⟨_, rfl⟩
  obtain ⟨p, hp⟩ : ∃ p, mulN a b = p := ⟨_, rfl⟩
  obtain ⟨q, hq⟩ : ∃ q, mulN a (invN b) = q := ⟨_, rfl⟩
  obtain ⟨r, hr⟩ : ∃ r, invN a = r := ⟨_, rfl⟩
  obtain ⟨i, hi⟩ : ∃ i, err0 a = i := ⟨_, rfl⟩
  obtain ⟨j, hj⟩ : ∃ j, err0 b = j := ⟨_, rfl⟩
  have hx : bits .xor .u8 (a : Int) (b : Int) = (s : Int) := by rw [u8_xor_nat a b ha hb, hs]
  have HS := Lib.hid hs
  have HP := Lib.hid hp
  have HQ := Lib.hid hq
  have HR := Lib.hid hr
  have HI := Lib.hid hi
  have HJ := Lib.hid hj
  clear hs hp hq hr hi hj
  go_enter Try.func3, Try.ntmps3
  go_wp2_with fail
  refine (div_any a b q j ha hb HQ.out HJ.out _).mono ?_
  rintro e w1 ⟨rfl, g1⟩
  go_wp2_with fail
  refine (rdiv_eq a b q j ha hb HQ.out HJ.out _).mono ?_
  rintro e w2 ⟨rfl, rfl⟩
  go_wp2_with fail
  refine (inv_any a r i ha HR.out HI.out _).mono ?_
  rintro e w3 ⟨rfl, g3⟩
  go_wp2_with fail
  refine (rinv_eq a r i ha HR.out HI.out _).mono ?_
  rintro e w4 ⟨rfl, rfl⟩
  go_wp2_with fail
  refine (awake_any _).mono ?_
  rintro e w5 ⟨rfl, g5⟩
  go_wp2_with fail
  refine (add_eq a b s ha hb HS.out _).mono ?_
  rintro e w6 ⟨rfl, rfl⟩
  go_wp2_with fail
  refine (mul_eq a b p ha hb HP.out _).mono ?_
  rintro e w6 ⟨rfl, rfl⟩
  go_wp2_with fail
  refine (rmul_eq a b p ha hb HP.out _).mono ?_
  rintro e w6 ⟨rfl, rfl⟩
  go_wp2_with fail
  go_ret
  exact ⟨rfl, Grown_trans g1 (Grown_trans g3 g5)⟩
end Go.Proofs.Ytnknpohnlobgcaa
