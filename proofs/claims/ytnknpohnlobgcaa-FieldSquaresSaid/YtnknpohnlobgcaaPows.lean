/- Contracts of Pow, of Div and of the awake test. -/
import Derived.Test.YtnknpohnlobgcaaTabcalls
namespace Go.Proofs.Ytnknpohnlobgcaa
open Go.RowKit
theorem pow_neg (a : Nat) (n : Int) (hn : n < 0) (w : World) : Calls Try.prog 18 #[.int .u8 a, .int .i64 n] w fun e w' => e = .returned (.tuple #[.int .u8 0, .int .i64 1]) ∧ Grown w w' := by
  go_enter Try.func18, Try.ntmps18
  go_wp2
  go_ret2
  exact ⟨rfl, Grown.refl _⟩
set_option maxRecDepth 100000 in
theorem pow_any (a n : Nat) (ha : a < 256) (hn : n < 9223372036854775808) (w : World) : Calls Try.prog 18 #[.int .u8 a, .int .i64 n] w fun e w' => e = .returned (.tuple #[.int .u8 (powN a n : Nat), .int .i64 0]) ∧ Grown w w' := by
  by_cases h0 : n = 0
  · subst h0
    go_enter Try.func18, Try.ntmps18
    go_wp2
    go_ret2
    exact ⟨rfl, Grown.refl _⟩
  have b0 : ((n : Int) == 0) = false := beq_eq_false_iff_ne.2 (by omega)
  by_cases h1 : a = 0
  · subst h1
    have e : Hid (powN 0 n = 0) := by show powN 0 n = 0; simp [powN, h0]
    clear h0
    go_enter Try.func18, Try.ntmps18
    go_wp2
    go_ret2
    exact ⟨by rw [e.out]; rfl, Grown.refl _⟩
  have b1 : ((a : Int) == 0) = false := beq_eq_false_iff_ne.2 (by omega)
  have hz := zero_tab
  have hl := lg_lt a ha (by omega)
  have c1 := tabC_lg a ha (by omega)
  have hm : lg a * (n % 255) ≤ 254 * 254 := Nat.mul_le_mul (by omega) (by omega)
  have hme : ((lg a : Nat) : Int) * ((n : Int) % 255) = ((lg a * (n % 255) : Nat) : Int) := by simp
  have hm1 : 0 ≤ ((lg a : Nat) : Int) * ((n : Int) % 255) := by omega
  have hm2 : ((lg a : Nat) : Int) * ((n : Int) % 255) ≤ 64516 := by omega
  have c2 : tabC[lg a * n % 255]? = some (.int .u8 (powN a n : Nat)) := by
    rw [tabC_pw _ (Nat.mod_lt _ (by decide)), powN, if_neg h0, if_neg h1, pw_mod]
  clear hm hme
  clear h0 h1
  go_enter Try.func18, Try.ntmps18
  go_wp2_with fail
  refine (build_any _).mono ?_
  rintro e w1 ⟨rfl, hg⟩
  go_wp2_with (refine wpList_store_new rfl (.tmp 6) (.tmp 13) rfl tabC rfl rfl info_tabC zeros_size tabC_one ?_)
  go_ret2
  exact ⟨rfl, hg.alloc _ _⟩
theorem div_zero (a : Nat) (w : World) : Calls Try.prog 10 #[.int .u8 a, .int .u8 0] w fun e w' => e = .returned (.tuple #[.int .u8 0, .int .i64 1]) ∧ Grown w w' := by
  go_enter Try.func10, Try.ntmps10
  go_wp2_with fail
  refine (inv_zero _).mono ?_
  rintro e w1 ⟨rfl, hg⟩
  go_wp2_with fail
  go_ret2
  exact ⟨rfl, hg⟩
theorem div_pos (a b : Nat) (ha : a < 256) (hb : b < 256) (h1 : 1 ≤ b) (w : World) : Calls Try.prog 10 #[.int .u8 a, .int .u8 b] w fun e w' => e = .returned (.tuple #[.int .u8 (mulN a (invN b) : Nat), .int .i64 0]) ∧ Grown w w' := by
  go_enter Try.func10, Try.ntmps10
  go_wp2_with fail
  refine (inv_pos b hb h1 _).mono ?_
  rintro e w1 ⟨rfl, hg⟩
  go_wp2_with fail
  refine (mul_any a (invN b) ha (invN_lt b) _).mono ?_
  rintro e w2 ⟨rfl, rfl⟩
  go_wp2_with fail
  go_ret2
  exact ⟨rfl, hg⟩
theorem inv_53 (w : World) : Calls Try.prog 12 #[.int .u8 83] w fun e w' => e = .returned (.tuple #[.int .u8 202, .int .i64 0]) ∧ Grown w w' :=
  (inv_pos 83 (by decide) (by decide) w).mono fun e w' h => ⟨by rw [h.1, show invN 83 = 202 by decide +kernel]; rfl, h.2⟩
theorem log_5 (w : World) : Calls Try.prog 22 #[.int .u8 5] w fun e w' => e = .returned (.tuple #[.int .i64 2, .int .i64 0]) ∧ Grown w w' :=
  (log_pos 5 (by decide) (by decide) w).mono fun e w' h => ⟨by rw [h.1, show lg 5 = 2 by decide +kernel]; rfl, h.2⟩
theorem add_5783 (w : World) : Calls Try.prog 15 #[.int .u8 87, .int .u8 131] w fun e w' => e = .returned (.int .u8 212) ∧ w = w' :=
  (add_any 87 131 (by decide) (by decide) w).mono fun e w' h => ⟨by rw [h.1]; rfl, h.2⟩
theorem mul_5783 (w : World) : Calls Try.prog 16 #[.int .u8 87, .int .u8 131] w fun e w' => e = .returned (.int .u8 193) ∧ w = w' :=
  (mul_any 87 131 (by decide) (by decide) w).mono fun e w' h => ⟨by rw [h.1, show mulN 87 131 = 193 by decide +kernel]; rfl, h.2⟩
theorem mul_5713 (w : World) : Calls Try.prog 16 #[.int .u8 87, .int .u8 19] w fun e w' => e = .returned (.int .u8 254) ∧ w = w' :=
  (mul_any 87 19 (by decide) (by decide) w).mono fun e w' h => ⟨by rw [h.1, show mulN 87 19 = 254 by decide +kernel]; rfl, h.2⟩
theorem awake_any (w : World) : Calls Try.prog 14 #[] w fun e w' => e = .returned (.bool true) ∧ Grown w w' := by
  go_enter Try.func14, Try.ntmps14
  go_wp2_with fail
  refine (inv_53 _).mono ?_
  rintro e w1 ⟨rfl, hg1⟩
  go_wp2_with fail
  refine (log_5 _).mono ?_
  rintro e w2 ⟨rfl, hg2⟩
  go_wp2_with fail
  refine (add_5783 _).mono ?_
  rintro e w3 ⟨rfl, rfl⟩
  go_wp2_with fail
  refine (mul_5783 _).mono ?_
  rintro e w3 ⟨rfl, rfl⟩
  go_wp2_with fail
  refine (mul_5713 _).mono ?_
  rintro e w3 ⟨rfl, rfl⟩
  go_wp2_with fail
  go_ret
  exact ⟨rfl, Grown_trans hg1 hg2⟩
end Go.Proofs.Ytnknpohnlobgcaa
