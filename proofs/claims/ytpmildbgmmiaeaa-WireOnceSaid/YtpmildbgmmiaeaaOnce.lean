/- The walk of WireOnce. -/
import Derived.Test.YtpmildbgmmiaeaaOrder
namespace Go.Proofs.Ytpmildbgmmiaeaa
open Go.RowKit
set_option maxRecDepth 100000 in
set_option maxHeartbeats 4000000 in
theorem once_any (n ca y : Nat) (A : Option Addr) (xs : List Nat) (w : World) (h1 : Bytes w w.heap.size A n xs) (m1 : n ≤ 140737488351232) (q1 : n ≤ ca) (hy : y < 256) :
    Calls Try.prog 6 #[.slice A n ca, .int .u8 y] w fun e w' => e = .returned (.bool true) ∧ Keep w w' := by
  obtain ⟨m, hm⟩ : ∃ m, y % 8 = m := ⟨_, rfl⟩
  obtain ⟨t, ht⟩ : ∃ t, m + 1 = t := ⟨_, rfl⟩
  have e1 : (y : Int) % 8 = (m : Int) := by omega
  have e2 : (1 : Int) + (m : Int) = (t : Int) := by omega
  have t1 : 1 ≤ t := by omega
  have t8 : t ≤ 8 := by omega
  have B1 := Lib.hid h1
  have hl := h1.length
  clear hm ht h1
  go_enter Try.func6, Try.ntmps6
  go_wp2_with fail
  refine (wnew_any _ n ca _ xs _ B1.out (Nat.le_refl _) (by omega)).mono ?_
  rintro e w1 ⟨g, F, rfl, r1, f1, k1⟩
  have hg : w.heap.size ≤ g := f1 g r1.at_
  have R1 := Lib.hid r1
  have K1 := Lib.hid k1
  clear r1 k1 f1
  go_wp2_with fail
  refine (wread_any F g xs t _ R1.out).mono ?_
  by_cases hs : n < t
  · have x1 : readErr xs t = 4 := by rw [readErr, if_neg (by omega), Int.toNat_natCast, if_pos (by omega)]
    rw [x1]
    rintro e w2 ⟨rfl, _, k2⟩
    have K2 := Lib.hid (grown_keep k2 w K1.out hg)
    have x2 : (n : Int) < (t : Int) := by omega
    clear k2 hs
    go_wp2_with fail
    refine (awake_any _).mono ?_
    rintro e w3 ⟨rfl, s3⟩
    have S3 := Lib.hid s3
    clear s3
    go_wp2_with fail
    go_ret
    exact ⟨rfl, Keep.trans K2.out S3.out⟩
  · have x1 : readErr xs t = 0 := by rw [readErr, if_neg (by omega), Int.toNat_natCast, if_neg (by omega)]
    have x2 : readVal xs t = valN (xs.take t) := by rw [readVal, if_pos x1, Int.toNat_natCast]
    have hall := B1.out.all
    have hlt := valN_lt (xs.take t) (hall.take t)
    have hlen : (xs.take t).length = t := by rw [List.length_take]; omega
    have hv64 := valN_lt64 xs t hall t8
    have hform := form_val (xs.take t) (hall.take t)
    rw [hlen] at hlt hform
    rw [x1, x2]
    obtain ⟨X, hX⟩ : ∃ X, xs.take t = X := ⟨_, rfl⟩
    rw [hX] at hlt hform hv64 hlen ⊢
    obtain ⟨v, hv⟩ : ∃ v, valN X = v := ⟨_, rfl⟩
    rw [hv] at hlt hform hv64 ⊢
    obtain ⟨f1, f2⟩ := numOf_fit v t t1 t8 hlt
    rw [hform] at f1
    have HF := Lib.hid (And.intro f1 f2)
    have BX := B1.out.cut (m := t) (by omega)
    rw [hX] at BX
    have HBX := Lib.hid BX
    rintro e w2 ⟨rfl, _, k2⟩
    have K2 := Lib.hid (grown_keep k2 w K1.out hg)
    have e3 : (0 : Int) ≤ (t : Int) := Int.natCast_nonneg _
    have e4 : (t : Int) ≤ (ca : Int) := by omega
    clear k2 x1 x2 hlt hform hX hv f1 f2 BX hall hlen hl
    go_wp2_with fail
    refine (wnum_any 0 0 0 v t none [] _ (Bytes.nil _ _ _) (by simp) (by decide) hv64).mono ?_
    rw [HF.out.1, HF.out.2]
    rintro e w3 ⟨P3, n3, c3, rfl, o3, s3⟩
    have O3 := Lib.hid o3
    have K3 := Lib.hid (Keep.trans K2.out s3)
    clear o3 s3
    go_wp2_with fail
    refine (equal_any _ _ n3 t _ _ _ _ _ _ _ O3.out.bytes (HBX.out.keep (Nat.le_refl _) K3.out)).mono ?_
    rw [decide_eq_true rfl]
    rintro e w4 ⟨rfl, rfl⟩
    go_wp2_with fail
    go_loopw [11] (fun i wr => ∃ j : Nat, 1 ≤ j ∧ j ≤ 9 ∧ i = .int .i64 j ∧ Keep w wr) (fun i _ => 9 - (intOf i).toNat)
    case atStart => exact ⟨1, by omega, by omega, rfl, K3.out⟩
    case round =>
      obtain ⟨j, j1, j9, rfl, hkeep⟩ := hrel
      have HK := Lib.hid hkeep
      clear hkeep
      by_cases hj : j ≤ 8
      · have x1 : (j : Int) ≤ 8 := by omega
        have hq : (v : Int) / 2 ^ (8 * j) = ((v / 256 ^ j : Nat) : Int) := by
          rw [show (256 : Nat) = 2 ^ 8 from rfl, ← Nat.pow_mul]; simp
        by_cases hv : v < 256 ^ j
        · have HE := Lib.hid (numOf_fit v j j1 hj hv).2
          rw [Nat.div_eq_of_lt hv] at hq
          clear hv
          by_cases h8 : j = 8
          · have b8 : ((j : Int) == 8) = true := by rw [h8]; rfl
            clear hq h8
            go_wp2_with fail
            refine (wnum_any 0 0 0 v j none [] _ (Bytes.nil _ _ _) (by simp) (by decide) hv64).mono ?_
            rw [HE.out]
            rintro e w5 ⟨P5, n5, c5, rfl, o5, s5⟩
            have K5 := Lib.hid (Keep.trans HK.out s5)
            clear o5 s5
            go_wp2_with fail
            go_round
            case rel => exact ⟨j + 1, by omega, by omega, by go_num, K5.out⟩
            case measure => simp [intOf]; omega
          · have b8 : ((j : Int) == 8) = false := beq_eq_false_iff_ne.2 fun e => h8 (by exact_mod_cast e)
            clear h8
            go_wp2_with fail
            refine (wnum_any 0 0 0 v j none [] _ (Bytes.nil _ _ _) (by simp) (by decide) hv64).mono ?_
            rw [HE.out]
            rintro e w5 ⟨P5, n5, c5, rfl, o5, s5⟩
            have K5 := Lib.hid (Keep.trans HK.out s5)
            clear o5 s5
            go_wp2_with fail
            clear hq
            go_round
            case rel => exact ⟨j + 1, by omega, by omega, by go_num, K5.out⟩
            case measure => simp [intOf]; omega
        · have HE := Lib.hid (numOf_long [] v j j1 hj hv).2
          have hj8 : j ≠ 8 := fun e => hv (by subst e; exact hv64)
          have b8 : ((j : Int) == 8) = false := beq_eq_false_iff_ne.2 fun e => hj8 (by exact_mod_cast e)
          have hp : 0 < v / 256 ^ j := Nat.div_pos (by omega) (Nat.pow_pos (by decide))
          obtain ⟨d, hd⟩ : ∃ d, v / 256 ^ j = d := ⟨_, rfl⟩
          rw [hd] at hq hp
          have b9 : ((d : Int) == 0) = false := beq_eq_false_iff_ne.2 (by omega)
          clear hv hd hp
          go_wp2_with fail
          refine (wnum_any 0 0 0 v j none [] _ (Bytes.nil _ _ _) (by simp) (by decide) hv64).mono ?_
          rw [HE.out]
          rintro e w5 ⟨P5, n5, c5, rfl, o5, s5⟩
          have K5 := Lib.hid (Keep.trans HK.out s5)
          clear o5 s5
          go_wp2_with fail
          clear hq
          go_round
          case rel => exact ⟨j + 1, by omega, by omega, by go_num, K5.out⟩
          case measure => simp [intOf]; omega
      · obtain rfl : j = 9 := by omega
        go_wp2_with fail
        refine (awake_any _).mono ?_
        rintro e w6 ⟨rfl, s6⟩
        have S6 := Lib.hid s6
        clear s6
        go_wp2_with fail
        go_ret
        exact ⟨rfl, Keep.trans HK.out S6.out⟩
end Go.Proofs.Ytpmildbgmmiaeaa
