/- The law FieldKnown answers true. -/
import Derived.Test.YtnknpohnlobgcaaLawsA
import Derived.Test.YtnknpohnlobgcaaMaps
namespace Go.Proofs.Ytnknpohnlobgcaa
open Go.RowKit Go.Maps

theorem key5 : Keyed Try.prog 5 := int_keyed Try.underlying5
theorem zero3 (w : World) : (zeroValue 3).run Try.prog w = .ok (.int .i64 0) w := by kernel_rfl
theorem expI_nat (k : Nat) (h : k < 255) : expI (k : Int) = pw k := by rw [expI, if_neg (by omega)]; rfl
theorem errE_nat' (k : Nat) (h : k < 255) : errE (k : Int) = 0 := by rw [errE, if_neg (by omega)]
theorem wf_u8 (k : Nat) : (Lit.int .u8 ((pw k : Nat) : Int)).wf = true := by
  have h := pw_lt k
  have h2 : IntKind.u8.min = 0 := by decide
  have h3 : IntKind.u8.max = 255 := by decide
  simp [Lit.wf, h2, h3]
  omega
set_option maxRecDepth 100000 in
set_option maxHeartbeats 2000000 in
theorem known_any (w : World) :
    Calls Try.prog 9 #[] w fun e w' => e = .returned (.bool true) ∧ Grown w w' := by
  have hmm := @run_makeMap Try.prog
  go_enter Try.func9, Try.ntmps9
  go_wp2_with fail
  go_loopw [22] (fun i wr => ∃ k : Nat, k ≤ 255 ∧ i = .int .i64 k ∧ wr.ownsMap Try.prog 5 (plainElem Try.prog 3) w.heap.size k (seenN k) ∧ Grown w wr) (fun i _ => 255 - (intOf i).toNat)
  case atStart => exact ⟨0, by omega, rfl, World.ownsMap_made _ _ _ _, (Grown.refl _).allocMap _ _⟩
  case round =>
    obtain ⟨k, hk, rfl, hown, hg⟩ := hrel
    by_cases hlt : k < 255
    · have HA := Lib.hid (seenN_at k hlt (.lit (.int .i64 0)))
      have HX := Lib.hid (expI_nat k hlt)
      have HE := Lib.hid (errE_nat' k hlt)
      have hp := pw_lt k
      have hp1 := pw_pos' k
      have b0 : (((pw k : Nat) : Int) == 0) = false := beq_eq_false_iff_ne.2 (by omega)
      go_wp2_with fail
      refine (exp_int k (pw k) 0 HX.out HE.out _).mono ?_
      rintro e w1 ⟨rfl, g1⟩
      have hown1 := ownsMap_grown hown g1
      obtain ⟨c, hrun, hat, _⟩ := hown1.lookup_int key5 Try.underlying48 Try.underlying3 (zero3 _) (kl := keyAt k) (keyOf_int_mk Try.underlying5 (wf_u8 k))
      rw [HA.out] at hat
      cases hat
      go_wp2_with (at_mapUpdate; refine wpList_mapUpdate_in _ rfl _ _ _ 48 rfl 5 3 key5 Try.underlying48 _ w.heap.size k _ rfl hown1 (by unfold maxLen; omega) _ _ (keyAt k) rfl rfl (keyOf_int_mk Try.underlying5 (wf_u8 k)) (.lit (.int .i64 1)) [] (plainElem_int Try.underlying3 (by decide)) ?_; intro w2 hown2 hturn2)
      have g2 := Grown_turned (Grown_trans hg g1) (Nat.le_refl _) hturn2
      go_roundw
      case rel => exact ⟨k + 1, by omega, by go_num, hown2, g2⟩
      case measure => simp [intOf]; omega
    · have hsz := Lib.hid (seenN_size k hk)
      have hk2 : 255 ≤ k := by omega
      go_wp2_with fail
      refine (exp_int 255 0 1 (by decide) (by decide) _).mono ?_
      rintro e w1 ⟨rfl, g1⟩
      go_wp2_with fail
      refine (exp_int (-1) 0 1 (by decide) (by decide) _).mono ?_
      rintro e w2 ⟨rfl, g2⟩
      go_wp2_with fail
      refine (log_zero _).mono ?_
      rintro e w3 ⟨rfl, g3⟩
      go_wp2_with fail
      refine (inv_zero _).mono ?_
      rintro e w4 ⟨rfl, g4⟩
      go_wp2_with fail
      refine (div_zero 1 _).mono ?_
      rintro e w5 ⟨rfl, g5⟩
      go_wp2_with fail
      refine (pow_neg 2 (-1) (by decide) _).mono ?_
      rintro e w6 ⟨rfl, g6⟩
      go_wp2_with fail
      refine (pow_int 0 0 1 0 (by decide) (by decide) rfl rfl _).mono ?_
      rintro e w7 ⟨rfl, g7⟩
      go_wp2_with fail
      refine (pow_int 0 5 0 0 (by decide) (by decide) rfl rfl _).mono ?_
      rintro e w8 ⟨rfl, g8⟩
      go_wp2_with fail
      refine (awake_any _).mono ?_
      rintro e w9 ⟨rfl, g9⟩
      have gg := Grown_trans g1 (Grown_trans g2 (Grown_trans g3 (Grown_trans g4 (Grown_trans g5 (Grown_trans g6 (Grown_trans g7 (Grown_trans g8 g9)))))))
      have hown9 := ownsMap_grown hown gg
      have hlen := hown9.len Try.underlying48
      rw [hsz.out, show k = 255 by omega] at hlen
      go_wp2_with fail
      go_ret
      exact ⟨rfl, Grown_trans hg gg⟩
end Go.Proofs.Ytnknpohnlobgcaa
