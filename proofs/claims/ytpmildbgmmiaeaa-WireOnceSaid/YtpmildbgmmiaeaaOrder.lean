/- The walk of WireOrder. -/
import Derived.Test.YtpmildbgmmiaeaaAwake
namespace Go.Proofs.Ytpmildbgmmiaeaa
open Go.RowKit
theorem numOf_fit (v t : Nat) (h1 : 1 ≤ t) (h8 : t ≤ 8) (hv : v < 256 ^ t) : numOf [] v t = formN t v ∧ numErr v t = 0 := by
  rw [numOf, numErr, if_neg (by omega), if_neg (by omega), Int.toNat_natCast, laysOf, laysErr, if_pos hv, if_pos hv]
  exact ⟨rfl, rfl⟩
theorem numOf_long (xs : List Nat) (v t : Nat) (h1 : 1 ≤ t) (h8 : t ≤ 8) (hv : ¬ v < 256 ^ t) : numOf xs v t = [] ∧ numErr v t = 3 := by
  rw [numOf, numErr, if_neg (by omega), if_neg (by omega), Int.toNat_natCast, laysOf, laysErr, if_neg hv, if_neg hv]
  exact ⟨rfl, rfl⟩
set_option maxRecDepth 100000 in
set_option maxHeartbeats 4000000 in
theorem order_any (a b y : Nat) (w : World) (ha : a < 18446744073709551616) (hb : b < 18446744073709551616) (hy : y < 256) :
    Calls Try.prog 7 #[.int .u64 a, .int .u64 b, .int .u8 y] w fun e w' => e = .returned (.bool true) ∧ Keep w w' := by
  obtain ⟨m, hm⟩ : ∃ m, y % 8 = m := ⟨_, rfl⟩
  obtain ⟨t, ht⟩ : ∃ t, m + 1 = t := ⟨_, rfl⟩
  have e1 : (y : Int) % 8 = (m : Int) := by omega
  have e2 : (1 : Int) + (m : Int) = (t : Int) := by omega
  have t1 : 1 ≤ t := by omega
  have t8 : t ≤ 8 := by omega
  have HW := Lib.hid (And.intro t1 t8)
  obtain ⟨F, hF⟩ : ∃ F, numOf [] a t = F := ⟨_, rfl⟩
  obtain ⟨G, hG⟩ : ∃ F, numOf [] b t = F := ⟨_, rfl⟩
  obtain ⟨ea, hea⟩ : ∃ e, numErr a t = e := ⟨_, rfl⟩
  obtain ⟨eb, heb⟩ : ∃ e, numErr b t = e := ⟨_, rfl⟩
  have E1 := Lib.hid (And.intro hF hea)
  have E2 := Lib.hid (And.intro hG heb)
  have HA : Hid (a < 256 ^ t ∧ F = formN t a ∧ ea = 0 ∨ ¬ a < 256 ^ t ∧ F = [] ∧ ea = 3) := by
    show _ ∨ _
    rw [← hF, ← hea]
    by_cases h : a < 256 ^ t
    · exact Or.inl ⟨h, numOf_fit a t t1 t8 h⟩
    · exact Or.inr ⟨h, numOf_long [] a t t1 t8 h⟩
  have HB : Hid (b < 256 ^ t ∧ G = formN t b ∧ eb = 0 ∨ ¬ b < 256 ^ t ∧ G = [] ∧ eb = 3) := by
    show _ ∨ _
    rw [← hG, ← heb]
    by_cases h : b < 256 ^ t
    · exact Or.inl ⟨h, numOf_fit b t t1 t8 h⟩
    · exact Or.inr ⟨h, numOf_long [] b t t1 t8 h⟩
  clear hF hG hea heb hm ht t1 t8
  go_enter Try.func7, Try.ntmps7
  go_wp2_with fail
  refine (wnum_any 0 0 0 a t none [] _ (Bytes.nil _ _ _) (by simp) (by decide) ha).mono ?_
  rw [E1.out.1, E1.out.2]
  rintro e w1 ⟨A1, n1, c1, rfl, o1, k1⟩
  have O1 := Lib.hid o1
  have K1 := Lib.hid k1
  clear o1 k1
  go_wp2_with fail
  refine (wnum_any 0 0 0 b t none [] _ (Bytes.nil _ _ _) (by simp) (by decide) hb).mono ?_
  rw [E2.out.1, E2.out.2]
  rintro e w2 ⟨A2, n2, c2, rfl, o2, k2⟩
  have O2 := Lib.hid o2
  have S2 := Lib.hid k2
  have K2 := Lib.hid (Keep.trans K1.out k2)
  clear o2 k2
  rcases HA.out with ⟨fa, rfl, rfl⟩ | ⟨fa, rfl, rfl⟩
  · rcases HB.out with ⟨fb, rfl, rfl⟩ | ⟨fb, rfl, rfl⟩
    · have hc := cmpN_val (formN t a) (formN t b) (by rw [formN_length, formN_length]) (formN_all t a) (formN_all t b)
      rw [valN_form, valN_form, Nat.mod_eq_of_lt fa, Nat.mod_eq_of_lt fb] at hc
      obtain ⟨o, ho⟩ : ∃ o, cmpN (formN t a) (formN t b) = o := ⟨_, rfl⟩
      rw [ho] at hc
      have HO := Lib.hid ho
      have HC := Lib.hid hc
      clear hc ho fa fb
      go_wp2_with fail
      refine (compare_any _ _ n1 n2 _ _ _ _ _ _ _ (O1.out.bytes.keep (Nat.le_refl _) S2.out) O2.out.bytes).mono ?_
      rw [HO.out]
      rintro e w3 ⟨rfl, rfl⟩
      go_wp2_with fail
      refine (awake_any _).mono ?_
      rintro e w4 ⟨rfl, s4⟩
      have S4 := Lib.hid s4
      clear s4
      rcases Nat.lt_trichotomy a b with h | h | h
      · have x1 : o < 0 := HC.out.1.2 h
        have x2 : (a : Int) < (b : Int) := by omega
        have x3 : (o == 0) = false := beq_eq_false_iff_ne.2 (by omega)
        have x4 : ((a : Int) == (b : Int)) = false := beq_eq_false_iff_ne.2 (by omega)
        clear h
        go_wp2_with fail
        go_ret
        exact ⟨rfl, Keep.trans K2.out S4.out⟩
      · have x1 : o = 0 := HC.out.2.2 h
        subst x1 h
        go_wp2_with fail
        go_ret
        exact ⟨rfl, Keep.trans K2.out S4.out⟩
      · have x1 : ¬ o < 0 := fun q => by have := HC.out.1.1 q; omega
        have x2 : ¬ (a : Int) < (b : Int) := by omega
        have x3 : (o == 0) = false := beq_eq_false_iff_ne.2 fun q => by have := HC.out.2.1 q; omega
        have x4 : ((a : Int) == (b : Int)) = false := beq_eq_false_iff_ne.2 (by omega)
        clear h
        go_wp2_with fail
        go_ret
        exact ⟨rfl, Keep.trans K2.out S4.out⟩
    · obtain rfl : n2 = 0 := O2.out.length.symm
      go_wp2_with fail
      refine (awake_any _).mono ?_
      rintro e w4 ⟨rfl, s4⟩
      have S4 := Lib.hid s4
      clear s4
      go_wp2_with fail
      go_ret
      exact ⟨rfl, Keep.trans K2.out S4.out⟩
  · obtain rfl : n1 = 0 := O1.out.length.symm
    rcases HB.out with ⟨fb, rfl, rfl⟩ | ⟨fb, rfl, rfl⟩
    · go_wp2_with fail
      refine (awake_any _).mono ?_
      rintro e w4 ⟨rfl, s4⟩
      have S4 := Lib.hid s4
      clear s4
      go_wp2_with fail
      go_ret
      exact ⟨rfl, Keep.trans K2.out S4.out⟩
    · obtain rfl : n2 = 0 := O2.out.length.symm
      go_wp2_with fail
      refine (awake_any _).mono ?_
      rintro e w4 ⟨rfl, s4⟩
      have S4 := Lib.hid s4
      clear s4
      go_wp2_with fail
      go_ret
      exact ⟨rfl, Keep.trans K2.out S4.out⟩
end Go.Proofs.Ytpmildbgmmiaeaa
