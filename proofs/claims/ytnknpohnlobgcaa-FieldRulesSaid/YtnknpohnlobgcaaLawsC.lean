/- The law FieldRules answers true. -/
import Derived.Test.YtnknpohnlobgcaaLawsB
namespace Go.Proofs.Ytnknpohnlobgcaa
open Go.RowKit

set_option maxRecDepth 100000 in
set_option maxHeartbeats 4000000 in
theorem rules_any (a b c : Nat) (ha : a < 256) (hb : b < 256) (hc : c < 256) (w : World) :
    Calls Try.prog 5 #[.int .u8 a, .int .u8 b, .int .u8 c] w fun e w' => e = .returned (.bool true) ∧ Grown w w' := by
  obtain ⟨x1, X1⟩ : ∃ x, a ^^^ b = x := ⟨_, rfl⟩
  obtain ⟨x2, X2⟩ : ∃ x, x1 ^^^ c = x := ⟨_, rfl⟩
  obtain ⟨x3, X3⟩ : ∃ x, b ^^^ c = x := ⟨_, rfl⟩
  obtain ⟨p, P⟩ : ∃ x, mulN a b = x := ⟨_, rfl⟩
  obtain ⟨q, Q⟩ : ∃ x, mulN p c = x := ⟨_, rfl⟩
  obtain ⟨r, R⟩ : ∃ x, mulN b c = x := ⟨_, rfl⟩
  obtain ⟨t, T⟩ : ∃ x, mulN a x3 = x := ⟨_, rfl⟩
  obtain ⟨u, U⟩ : ∃ x, mulN a c = x := ⟨_, rfl⟩
  obtain ⟨i, I⟩ : ∃ x, invN a = x := ⟨_, rfl⟩
  obtain ⟨k, K⟩ : ∃ x, mulN b i = x := ⟨_, rfl⟩
  have lx1 : x1 < 256 := by rw [← X1]; exact xor_lt ha hb
  have lx3 : x3 < 256 := by rw [← X3]; exact xor_lt hb hc
  have lp : p < 256 := by rw [← P]; exact mulN_lt _ ha
  have lr : r < 256 := by rw [← R]; exact mulN_lt _ hb
  have lu : u < 256 := by rw [← U]; exact mulN_lt _ ha
  have li : i < 256 := by rw [← I]; exact invN_lt _
  have lk : k < 256 := by rw [← K]; exact mulN_lt _ hb
  have X1R : b ^^^ a = x1 := by rw [Nat.xor_comm, X1]
  have X2R : a ^^^ x3 = x2 := by rw [← X2, ← X1, ← X3, Nat.xor_assoc]
  have A0 : a ^^^ 0 = a := Nat.xor_zero a
  have AA : a ^^^ a = 0 := Nat.xor_self a
  have PR : mulN b a = p := by rw [← P]; exact mul_comm' b a hb ha
  have QR : mulN a r = q := by rw [← Q, ← P, ← R]; exact (mul_assoc' a b c ha hb hc).symm
  have A1 : mulN a 1 = a := mul_one_right a ha
  have AZ : mulN a 0 = 0 := mul_zero_right a
  have TR : p ^^^ u = t := by rw [← P, ← U, ← T, ← X3]; exact (mul_xor_right a b c ha hb hc).symm
  have Z : p = 0 ↔ a = 0 ∨ b = 0 := by rw [← P]; exact mul_eq_zero a b ha hb
  have D : mulN b (invN a) = k := by rw [I, K]
  have E1 : a ≠ 0 → mulN a i = 1 := fun h => by rw [← I]; exact mul_inv a ha (by omega)
  have E2 : a ≠ 0 → mulN k a = b := fun h => by
    rw [← K, mul_assoc' b i a hb li ha, mul_comm' i a li ha, E1 h, mul_one_right b hb]
  have E3 : a = 0 → i = 0 ∧ k = 0 := fun h => by
    have hi : i = 0 := by rw [← I, h]; rfl
    exact ⟨hi, by rw [← K, hi]; exact mul_zero_right b⟩
  have HX1 := Lib.hid X1
  have HX2 := Lib.hid X2
  have HX3 := Lib.hid X3
  have HP := Lib.hid P
  have HQ := Lib.hid Q
  have HR := Lib.hid R
  have HT := Lib.hid T
  have HU := Lib.hid U
  have HI := Lib.hid I
  have HK := Lib.hid K
  have HX1R := Lib.hid X1R
  have HX2R := Lib.hid X2R
  have HA0 := Lib.hid A0
  have HAA := Lib.hid AA
  have HPR := Lib.hid PR
  have HQR := Lib.hid QR
  have HA1 := Lib.hid A1
  have HAZ := Lib.hid AZ
  have HTR := Lib.hid TR
  have HZ := Lib.hid Z
  have HD := Lib.hid D
  have HE1 := Lib.hid E1
  have HE2 := Lib.hid E2
  have HE3 := Lib.hid E3
  clear X1 X2 X3 P Q R T U I K X1R X2R A0 AA PR QR A1 AZ TR Z D E1 E2 E3
  by_cases h0 : a = 0
  · have ba : ((a : Int) == 0) = true := beq_iff_eq.2 (by omega)
    have bp : ((p : Int) == 0) = true := beq_iff_eq.2 (by have := HZ.out.2 (Or.inl h0); omega)
    have bi : ((i : Int) == 0) = true := beq_iff_eq.2 (by have := HE3.out h0; omega)
    have bk : ((k : Int) == 0) = true := beq_iff_eq.2 (by have := HE3.out h0; omega)
    have HE : Hid (err0 a = 1) := by show _ = _; rw [h0]; rfl
    clear h0
    go_enter Try.func5, Try.ntmps5
    go_wp2_with fail
    refine (add_eq a b x1 ha hb HX1.out _).mono ?_
    rintro e wx ⟨rfl, rfl⟩
    go_wp2_with fail
    refine (add_eq b a x1 hb ha HX1R.out _).mono ?_
    rintro e wx ⟨rfl, rfl⟩
    go_wp2_with fail
    refine (add_eq a b x1 ha hb HX1.out _).mono ?_
    rintro e wx ⟨rfl, rfl⟩
    go_wp2_with fail
    refine (add_eq x1 c x2 lx1 hc HX2.out _).mono ?_
    rintro e wx ⟨rfl, rfl⟩
    go_wp2_with fail
    refine (add_eq b c x3 hb hc HX3.out _).mono ?_
    rintro e wx ⟨rfl, rfl⟩
    go_wp2_with fail
    refine (add_eq a x3 x2 ha lx3 HX2R.out _).mono ?_
    rintro e wx ⟨rfl, rfl⟩
    go_wp2_with fail
    refine (add_eq a 0 a ha (by decide) HA0.out _).mono ?_
    rintro e wx ⟨rfl, rfl⟩
    go_wp2_with fail
    refine (add_eq a a 0 ha ha HAA.out _).mono ?_
    rintro e wx ⟨rfl, rfl⟩
    go_wp2_with fail
    refine (mul_eq a b p ha hb HP.out _).mono ?_
    rintro e wx ⟨rfl, rfl⟩
    go_wp2_with fail
    refine (mul_eq b a p hb ha HPR.out _).mono ?_
    rintro e wx ⟨rfl, rfl⟩
    go_wp2_with fail
    refine (mul_eq a b p ha hb HP.out _).mono ?_
    rintro e wx ⟨rfl, rfl⟩
    go_wp2_with fail
    refine (mul_eq p c q lp hc HQ.out _).mono ?_
    rintro e wx ⟨rfl, rfl⟩
    go_wp2_with fail
    refine (mul_eq b c r hb hc HR.out _).mono ?_
    rintro e wx ⟨rfl, rfl⟩
    go_wp2_with fail
    refine (mul_eq a r q ha lr HQR.out _).mono ?_
    rintro e wx ⟨rfl, rfl⟩
    go_wp2_with fail
    refine (mul_eq a 1 a ha (by decide) HA1.out _).mono ?_
    rintro e wx ⟨rfl, rfl⟩
    go_wp2_with fail
    refine (mul_eq a 0 0 ha (by decide) HAZ.out _).mono ?_
    rintro e wx ⟨rfl, rfl⟩
    go_wp2_with fail
    refine (add_eq b c x3 hb hc HX3.out _).mono ?_
    rintro e wx ⟨rfl, rfl⟩
    go_wp2_with fail
    refine (mul_eq a x3 t ha lx3 HT.out _).mono ?_
    rintro e wx ⟨rfl, rfl⟩
    go_wp2_with fail
    refine (mul_eq a b p ha hb HP.out _).mono ?_
    rintro e wx ⟨rfl, rfl⟩
    go_wp2_with fail
    refine (mul_eq a c u ha hc HU.out _).mono ?_
    rintro e wx ⟨rfl, rfl⟩
    go_wp2_with fail
    refine (add_eq p u t lp lu HTR.out _).mono ?_
    rintro e wx ⟨rfl, rfl⟩
    go_wp2_with fail
    refine (mul_eq a b p ha hb HP.out _).mono ?_
    rintro e wx ⟨rfl, rfl⟩
    go_wp2_with fail
    refine (inv_any a i 1 ha HI.out HE.out _).mono ?_
    rintro e w1 ⟨rfl, g1⟩
    go_wp2_with fail
    refine (div_any b a k 1 hb ha HD.out HE.out _).mono ?_
    rintro e w2 ⟨rfl, g2⟩
    go_wp2_with fail
    refine (awake_any _).mono ?_
    rintro e w3 ⟨rfl, g3⟩
    go_wp2_with fail
    go_ret
    exact ⟨rfl, Grown_trans g1 (Grown_trans g2 g3)⟩
  · have ba : ((a : Int) == 0) = false := beq_eq_false_iff_ne.2 (by omega)
    have HE : Hid (err0 a = 0) := err0_pos a (by omega)
    have HF1 : Hid (mulN a i = 1) := HE1.out h0
    have HF2 : Hid (mulN k a = b) := HE2.out h0
    have hpb : ∃ d : Bool, ((p : Int) == 0) = d ∧ ((b : Int) == 0) = d := by
      have h := HZ.out
      by_cases hb0 : b = 0
      · exact ⟨true, beq_iff_eq.2 (by have := h.2 (Or.inr hb0); omega), beq_iff_eq.2 (by omega)⟩
      · exact ⟨false, beq_eq_false_iff_ne.2 (by omega), beq_eq_false_iff_ne.2 (by omega)⟩
    obtain ⟨d, bp, bb⟩ := hpb
    clear h0
    go_enter Try.func5, Try.ntmps5
    go_wp2_with fail
    refine (add_eq a b x1 ha hb HX1.out _).mono ?_
    rintro e wx ⟨rfl, rfl⟩
    go_wp2_with fail
    refine (add_eq b a x1 hb ha HX1R.out _).mono ?_
    rintro e wx ⟨rfl, rfl⟩
    go_wp2_with fail
    refine (add_eq a b x1 ha hb HX1.out _).mono ?_
    rintro e wx ⟨rfl, rfl⟩
    go_wp2_with fail
    refine (add_eq x1 c x2 lx1 hc HX2.out _).mono ?_
    rintro e wx ⟨rfl, rfl⟩
    go_wp2_with fail
    refine (add_eq b c x3 hb hc HX3.out _).mono ?_
    rintro e wx ⟨rfl, rfl⟩
    go_wp2_with fail
    refine (add_eq a x3 x2 ha lx3 HX2R.out _).mono ?_
    rintro e wx ⟨rfl, rfl⟩
    go_wp2_with fail
    refine (add_eq a 0 a ha (by decide) HA0.out _).mono ?_
    rintro e wx ⟨rfl, rfl⟩
    go_wp2_with fail
    refine (add_eq a a 0 ha ha HAA.out _).mono ?_
    rintro e wx ⟨rfl, rfl⟩
    go_wp2_with fail
    refine (mul_eq a b p ha hb HP.out _).mono ?_
    rintro e wx ⟨rfl, rfl⟩
    go_wp2_with fail
    refine (mul_eq b a p hb ha HPR.out _).mono ?_
    rintro e wx ⟨rfl, rfl⟩
    go_wp2_with fail
    refine (mul_eq a b p ha hb HP.out _).mono ?_
    rintro e wx ⟨rfl, rfl⟩
    go_wp2_with fail
    refine (mul_eq p c q lp hc HQ.out _).mono ?_
    rintro e wx ⟨rfl, rfl⟩
    go_wp2_with fail
    refine (mul_eq b c r hb hc HR.out _).mono ?_
    rintro e wx ⟨rfl, rfl⟩
    go_wp2_with fail
    refine (mul_eq a r q ha lr HQR.out _).mono ?_
    rintro e wx ⟨rfl, rfl⟩
    go_wp2_with fail
    refine (mul_eq a 1 a ha (by decide) HA1.out _).mono ?_
    rintro e wx ⟨rfl, rfl⟩
    go_wp2_with fail
    refine (mul_eq a 0 0 ha (by decide) HAZ.out _).mono ?_
    rintro e wx ⟨rfl, rfl⟩
    go_wp2_with fail
    refine (add_eq b c x3 hb hc HX3.out _).mono ?_
    rintro e wx ⟨rfl, rfl⟩
    go_wp2_with fail
    refine (mul_eq a x3 t ha lx3 HT.out _).mono ?_
    rintro e wx ⟨rfl, rfl⟩
    go_wp2_with fail
    refine (mul_eq a b p ha hb HP.out _).mono ?_
    rintro e wx ⟨rfl, rfl⟩
    go_wp2_with fail
    refine (mul_eq a c u ha hc HU.out _).mono ?_
    rintro e wx ⟨rfl, rfl⟩
    go_wp2_with fail
    refine (add_eq p u t lp lu HTR.out _).mono ?_
    rintro e wx ⟨rfl, rfl⟩
    go_wp2_with fail
    refine (mul_eq a b p ha hb HP.out _).mono ?_
    rintro e wx ⟨rfl, rfl⟩
    go_wp2_with fail
    refine (inv_any a i 0 ha HI.out HE.out _).mono ?_
    rintro e w1 ⟨rfl, g1⟩
    go_wp2_with fail
    refine (div_any b a k 0 hb ha HD.out HE.out _).mono ?_
    rintro e w2 ⟨rfl, g2⟩
    go_wp2_with fail
    refine (awake_any _).mono ?_
    rintro e w3 ⟨rfl, g3⟩
    go_wp2_with fail
    refine (mul_eq a i 1 ha li HF1.out _).mono ?_
    rintro e wx ⟨rfl, rfl⟩
    go_wp2_with fail
    refine (mul_eq k a b lk ha HF2.out _).mono ?_
    rintro e wx ⟨rfl, rfl⟩
    go_wp2_with fail
    go_ret
    exact ⟨rfl, Grown_trans g1 (Grown_trans g2 g3)⟩
end Go.Proofs.Ytnknpohnlobgcaa
