/- The law FieldLogs answers true. -/
import Derived.Test.YtnknpohnlobgcaaLawsB
import Derived.Deep.QuietTactic
import Derived.BigQuiet
namespace Go.Proofs.Ytnknpohnlobgcaa
open Go.RowKit

theorem Grown_drewN {W w : World} (h : Grown W w) (n : Nat) : Grown W (w.drewN n) := h
theorem lgN_pos (a : Nat) (h : a ≠ 0) : lgN a = lg a := by rw [lgN, if_neg h]
theorem lgN_mul (a b : Nat) (ha : a < 256) (hb : b < 256) (h1 : a ≠ 0) (h2 : b ≠ 0) : lgN (mulN a b) = (lgN a + lgN b) % 255 := by
  have h3 : mulN a b ≠ 0 := fun h => by have := (mul_eq_zero a b ha hb).1 h; omega
  rw [lgN_pos _ h3, lgN_pos _ h1, lgN_pos _ h2, mul_lg a b ha hb (by omega) (by omega), ← pw_mod, lg_pw _ (Nat.mod_lt _ (by decide))]
theorem expI_lg (a : Nat) (ha : a < 256) (h : a ≠ 0) : expI ((lgN a : Nat) : Int) = a := by
  have hl := lg_lt a ha (by omega)
  rw [lgN_pos a h, expI, if_neg (by omega), Int.toNat_natCast, pw_lg a ha (by omega)]
theorem errE_nat (n : Nat) (h : n < 255) : errE (n : Int) = 0 := by rw [errE, if_neg (by omega)]
theorem errI_nat (n : Nat) : errI (n : Int) = 0 := by rw [errI, if_neg (by omega)]
set_option maxRecDepth 100000 in
set_option maxHeartbeats 2000000 in
theorem logs_any (a b n m : Nat) (ha : a < 256) (hb : b < 256) (hn : n < 4294967296) (hm : m < 4294967296) (w : World) :
    Calls Try.prog 6 #[.agg #[.int .u8 a, .int .u8 b, .int .u32 n, .int .u32 m]] w fun e w' => e = .returned (.bool true) ∧ Grown w w' := by
  have cx : ((n : Int) % 1048576) = ((n % 1048576 : Nat) : Int) := by omega
  have cy : ((m : Int) % 1048576) = ((m % 1048576 : Nat) : Int) := by omega
  have cs : ((n : Int) % 1048576 + (m : Int) % 1048576) = ((n % 1048576 + m % 1048576 : Nat) : Int) := by omega
  obtain ⟨p, hp⟩ : ∃ p, powN a (n % 1048576) = p := ⟨_, rfl⟩
  obtain ⟨q, hq⟩ : ∃ q, powN a (m % 1048576) = q := ⟨_, rfl⟩
  obtain ⟨r, hr⟩ : ∃ r, powN a (n % 1048576 + m % 1048576) = r := ⟨_, rfl⟩
  have lp : p < 256 := by rw [← hp]; exact powN_lt _ _
  have lq : q < 256 := by rw [← hq]; exact powN_lt _ _
  have HPQ : Hid (mulN p q = r) := by show _ = _; rw [← hp, ← hq, ← hr]; exact (powN_add a _ _ ha).symm
  have HP : Hid (powI a ((n : Int) % 1048576) = p) := by show _ = _; rw [cx, powI_nat, hp]
  have HQ : Hid (powI a ((m : Int) % 1048576) = q) := by show _ = _; rw [cy, powI_nat, hq]
  have HR : Hid (powI a ((n : Int) % 1048576 + (m : Int) % 1048576) = r) := by show _ = _; rw [cs, powI_nat, hr]
  have HEx : Hid (errI ((n : Int) % 1048576) = 0) := by show _ = _; rw [cx, errI_nat]
  have HEy : Hid (errI ((m : Int) % 1048576) = 0) := by show _ = _; rw [cy, errI_nat]
  have HEs : Hid (errI ((n : Int) % 1048576 + (m : Int) % 1048576) = 0) := by show _ = _; rw [cs, errI_nat]
  clear cx cy cs hp hq hr
  by_cases h0 : a = 0 ∨ b = 0
  · have hab : ∃ d : Bool, ((a : Int) == 0) = d ∧ (d = false → ((b : Int) == 0) = true) := by
      by_cases h : a = 0
      · exact ⟨true, beq_iff_eq.2 (by omega), fun h => by cases h⟩
      · exact ⟨false, beq_eq_false_iff_ne.2 (by omega), fun _ => beq_iff_eq.2 (by omega)⟩
    obtain ⟨d, h1, h2⟩ := hab
    clear h0
    cases d
    all_goals
      have h3 := h2
      clear h2
      simp only [forall_const, Bool.true_eq_false, false_implies] at h3
      go_enter Try.func6, Try.ntmps6
      go_wp2_with fail
      go_quiet (fail)
      go_wp2_with fail
      refine (pow_int a _ p 0 ha (by omega) HP.out HEx.out _).mono ?_
      rintro e w1 ⟨rfl, g1⟩
      go_wp2_with fail
      refine (pow_int a _ q 0 ha (by omega) HQ.out HEy.out _).mono ?_
      rintro e w2 ⟨rfl, g2⟩
      go_wp2_with fail
      refine (pow_int a _ r 0 ha (by omega) HR.out HEs.out _).mono ?_
      rintro e w3 ⟨rfl, g3⟩
      go_wp2_with fail
      refine (mul_eq p q r lp lq HPQ.out _).mono ?_
      rintro e w4 ⟨rfl, rfl⟩
      go_wp2_with fail
      refine (log_zero _).mono ?_
      rintro e w5 ⟨rfl, g5⟩
      go_wp2_with fail
      refine (awake_any _).mono ?_
      rintro e w6 ⟨rfl, g6⟩
      go_wp2_with fail
      go_ret
      exact ⟨rfl, Grown_trans (Grown_trans (Grown_drewN ((Grown.refl _).alloc _ _) _) g1) (Grown_trans g2 (Grown_trans g3 (Grown_trans g5 g6)))⟩
  · have b1 : ((a : Int) == 0) = false := beq_eq_false_iff_ne.2 (by omega)
    have b2 : ((b : Int) == 0) = false := beq_eq_false_iff_ne.2 (by omega)
    have ha0 : a ≠ 0 := by omega
    have hb0 : b ≠ 0 := by omega
    obtain ⟨t, ht⟩ : ∃ t, mulN a b = t := ⟨_, rfl⟩
    have lt : t < 256 := by rw [← ht]; exact mulN_lt _ ha
    have ht0 : t ≠ 0 := fun h => by have := (mul_eq_zero a b ha hb).1 (by omega); omega
    obtain ⟨i, hi⟩ : ∃ i, lgN a = i := ⟨_, rfl⟩
    obtain ⟨j, hj⟩ : ∃ j, lgN b = j := ⟨_, rfl⟩
    obtain ⟨l, hl⟩ : ∃ l, lgN t = l := ⟨_, rfl⟩
    have li : i < 255 := by rw [← hi, lgN_pos a ha0]; exact lg_lt a ha (by omega)
    have lj : j < 255 := by rw [← hj, lgN_pos b hb0]; exact lg_lt b hb (by omega)
    have hs : ((l : Int) == ((i : Int) + (j : Int)) % 255) = true := by
      have := lgN_mul a b ha hb ha0 hb0
      rw [ht, hl, hi, hj] at this
      exact beq_iff_eq.2 (by omega)
    have HT := Lib.hid ht
    have HI := Lib.hid hi
    have HJ := Lib.hid hj
    have HL := Lib.hid hl
    have HEa : Hid (err0 a = 0) := err0_pos a (by omega)
    have HEb : Hid (err0 b = 0) := err0_pos b (by omega)
    have HEt : Hid (err0 t = 0) := err0_pos t (by omega)
    have HX : Hid (expI (i : Int) = a) := by show _ = _; rw [← hi]; exact expI_lg a ha ha0
    have HXE : Hid (errE (i : Int) = 0) := errE_nat i li
    have H255 : Hid (powI a 255 = 1) := (powI_nat a 255).trans (powN_255 a ha (by omega))
    clear ht hi hj hl h0 ha0 hb0 ht0
    go_enter Try.func6, Try.ntmps6
    go_wp2_with fail
    go_quiet (fail)
    go_wp2_with fail
    refine (pow_int a _ p 0 ha (by omega) HP.out HEx.out _).mono ?_
    rintro e w1 ⟨rfl, g1⟩
    go_wp2_with fail
    refine (pow_int a _ q 0 ha (by omega) HQ.out HEy.out _).mono ?_
    rintro e w2 ⟨rfl, g2⟩
    go_wp2_with fail
    refine (pow_int a _ r 0 ha (by omega) HR.out HEs.out _).mono ?_
    rintro e w3 ⟨rfl, g3⟩
    go_wp2_with fail
    refine (mul_eq p q r lp lq HPQ.out _).mono ?_
    rintro e w4 ⟨rfl, rfl⟩
    go_wp2_with fail
    refine (log_any a i 0 ha HI.out HEa.out _).mono ?_
    rintro e w5 ⟨rfl, g5⟩
    go_wp2_with fail
    refine (log_any b j 0 hb HJ.out HEb.out _).mono ?_
    rintro e w6 ⟨rfl, g6⟩
    go_wp2_with fail
    refine (mul_eq a b t ha hb HT.out _).mono ?_
    rintro e w7 ⟨rfl, rfl⟩
    go_wp2_with fail
    refine (log_any t l 0 lt HL.out HEt.out _).mono ?_
    rintro e w7 ⟨rfl, g7⟩
    go_wp2_with fail
    refine (exp_int i a 0 HX.out HXE.out _).mono ?_
    rintro e w8 ⟨rfl, g8⟩
    go_wp2_with fail
    refine (pow_int a 255 1 0 ha (by decide) H255.out rfl _).mono ?_
    rintro e w9 ⟨rfl, g9⟩
    go_wp2_with fail
    refine (awake_any _).mono ?_
    rintro e w10 ⟨rfl, g10⟩
    go_wp2_with fail
    go_ret
    exact ⟨rfl, Grown_trans (Grown_trans (Grown_drewN ((Grown.refl _).alloc _ _) _) g1) (Grown_trans g2 (Grown_trans g3 (Grown_trans g5 (Grown_trans g6 (Grown_trans g7 (Grown_trans g8 (Grown_trans g9 g10)))))))⟩
end Go.Proofs.Ytnknpohnlobgcaa
