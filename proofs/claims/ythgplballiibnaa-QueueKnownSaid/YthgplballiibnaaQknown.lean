/- The walk of QueueKnown. -/
import Derived.Test.YthgplballiibnaaQawake
namespace Go.Proofs.Ythgplballiibnaa
open Go.RowKit
set_option linter.unusedVariables false
theorem pushErr_next (Z : List Nat) (k : Nat) (h : k < 63) : pushErr 64 (Z :: List.replicate k []) [] = 0 ∧ pushL 64 (Z :: List.replicate k []) [] = Z :: List.replicate (k + 1) [] := by
  have e : pushErr 64 (Z :: List.replicate k []) [] = 0 := by rw [pushErr, if_neg (by simp), if_neg (by simp; omega)]
  exact ⟨e, by rw [pushL, e, if_pos rfl, List.replicate_succ' (n := k)]; rfl⟩
theorem pushErr_full (Z : List Nat) : pushErr 64 (Z :: List.replicate 63 []) [] = 7 ∧ pushL 64 (Z :: List.replicate 63 []) [] = Z :: List.replicate 63 [] := by
  have e : pushErr 64 (Z :: List.replicate 63 []) [] = 7 := by rw [pushErr, if_neg (by simp), if_pos (by simp)]
  exact ⟨e, by rw [pushL, e, if_neg (by decide)]⟩
theorem pushErr_first (Z : List Nat) (h : Z.length = 70000) : pushErr 64 [] Z = 0 ∧ pushL 64 [] Z = [Z] := by
  have e : pushErr 64 [] Z = 0 := by rw [pushErr, if_neg (by omega), if_neg (by simp)]
  exact ⟨e, by rw [pushL, e, if_pos rfl]; rfl⟩
theorem pushErr_long (Z : List Nat) (h : Z.length = 70001) : pushErr 64 [] Z = 3 ∧ pushL 64 [] Z = [] := by
  have e : pushErr 64 [] Z = 3 := by rw [pushErr, if_pos (by omega)]
  exact ⟨e, by rw [pushL, e, if_neg (by decide)]⟩
theorem made_big (n : Nat) (hn : n ≤ 140737488355328) : ∃ (M : Array Value) (Z : List Nat), (∀ w : World, (Instr.makeSlice 31 (.int .i64 (OfNat.ofNat n)) (.int .i64 (OfNat.ofNat n))).run Try.prog w = .ok (.slice (some ⟨w.heap.size, 0, none⟩) n n) (w.alloc (.cells M 5))) ∧ (∀ w : World, Own (w.alloc (.cells M 5)) w.heap.size 5 (some ⟨w.heap.size, 0, none⟩) n n Z) ∧ Z.length = n :=
  ⟨_, _, fun w => run_make_bytes (P := Try.prog) Try.underlying31 info5 n hn w, fun w => Own.made w 5 n hn, List.length_replicate⟩
set_option maxRecDepth 100000 in
set_option maxHeartbeats 8000000 in
theorem known_any (w : World) : Calls Try.prog 6 #[] w fun e w' => e = .returned (.bool true) ∧ Keep w w' := by
  obtain ⟨M1, Z1, mk1, own1, l1⟩ := made_big 70001 (by decide)
  obtain ⟨M2, Z2, mk2, own2, l2⟩ := made_big 70000 (by decide)
  have P1 := Lib.hid (pushErr_long Z1 l1)
  have P2 := Lib.hid (pushErr_first Z2 l2)
  have W1 := Lib.hid own1
  have W2 := Lib.hid own2
  have L2 := Lib.hid l2
  clear own1 own2 l1 l2
  go_enter Try.func6, Try.ntmps6
  go_wp2_with fail
  refine (qnew_out 0 (by decide) _).mono ?_
  rintro e w1 ⟨rfl, rfl⟩
  go_wp2_with fail
  refine (qnew_out 65 (by decide) _).mono ?_
  rintro e w1 ⟨rfl, rfl⟩
  go_wp2_with fail
  refine (qnew_in 64 (by decide) (by decide) _).mono ?_
  rintro e w1 ⟨g, rfl, F, q1, f1, k1⟩
  have O1 : Hid (One w w1 F g 64 []) := ⟨q1, f1, k1⟩
  clear q1 f1 k1
  go_wp2_with fail
  refine (qpush_any _ 70001 _ 64 g _ F Z1 _ _ (O1.out.q.keep ((Keep.refl w1).obj _)) (W1.out w1).bytes (Nat.le_refl _)).mono ?_
  rw [P1.out.1, P1.out.2]
  rintro e w2 ⟨rfl, F2, q2, f2, k2⟩
  have O2 : Hid (One w w2 F2 g 64 []) := (O1.out.later ((Keep.refl w1).obj _)).step q2 f2 k2
  clear q2 f2 k2
  go_wp2_with fail
  refine (qpush_any _ 70000 _ 64 g _ F2 Z2 _ _ (O2.out.q.keep ((Keep.refl w2).obj _)) (W2.out w2).bytes (Nat.le_refl _)).mono ?_
  rw [P2.out.1, P2.out.2]
  rintro e w3 ⟨rfl, F3, q3, f3, k3⟩
  have O3 : Hid (One w w3 F3 g 64 [Z2]) := (O2.out.later ((Keep.refl w2).obj _)).step q3 f3 k3
  clear q3 f3 k3
  go_wp2_with fail
  go_loopw [36] (fun i wr => ∃ (k : Nat) (F : Nat → Prop), k ≤ 63 ∧ i = .int .i64 k ∧ One w wr F g 64 (Z2 :: List.replicate k [])) (fun i _ => 63 - (intOf i).toNat)
  case atStart => exact ⟨0, F3, by omega, rfl, O3.out⟩
  case round =>
    clear O3 O2 O1
    obtain ⟨k, F, hk, rfl, ho⟩ := hrel
    have HO := Lib.hid ho
    by_cases hlt : k < 63
    · have e2 : (k : Int) < 63 := by omega
      have HP := Lib.hid (pushErr_next Z2 k hlt)
      clear ho
      go_wp2_with fail
      refine (qpush_any 0 0 0 64 g none F [] _ _ HO.out.q (Bytes.nil _ _ _) (Nat.zero_le _)).mono ?_
      rw [HP.out.1, HP.out.2]
      rintro e w4 ⟨rfl, F4, q4, f4, k4⟩
      have HO4 := Lib.hid (HO.out.step q4 f4 k4)
      clear q4 f4 k4
      go_wp2_with fail
      go_roundw
      case rel => exact ⟨k + 1, F4, by omega, by go_num, HO4.out⟩
      case measure => simp [intOf]; omega
    · obtain rfl : k = 63 := by omega
      have HP := Lib.hid (pushErr_full Z2)
      have hz : (Z2 :: List.replicate 63 ([] : List Nat)).length = 64 := by simp
      obtain ⟨LL, hLL⟩ : ∃ LL, Z2 :: List.replicate 63 ([] : List Nat) = LL := ⟨_, rfl⟩
      have hd : LL.headD [] = Z2 ∧ LL.isEmpty = false := by rw [← hLL]; exact ⟨rfl, rfl⟩
      rw [hLL] at hz HP
      have HO : Hid (One w wr F g 64 LL) := by show One _ _ _ _ _ _; rw [← hLL]; exact ho
      have HH := Lib.hid (And.intro hz hd)
      clear ho hLL hz hd
      go_wp2_with fail
      refine (qpush_any 0 0 0 64 g none F [] _ _ HO.out.q (Bytes.nil _ _ _) (Nat.zero_le _)).mono ?_
      rw [HP.out.1, HP.out.2]
      rintro e w4 ⟨rfl, F4, q4, f4, k4⟩
      have HO4 := Lib.hid (HO.out.step q4 f4 k4)
      clear q4 f4 k4
      go_wp2_with fail
      refine (qpeek_any 64 g F4 _ _ HO4.out.q).mono ?_
      rw [HH.out.2.1, HH.out.2.2]
      rintro e w5 ⟨A5, n5, c5, rfl, o5, k5⟩
      obtain rfl : 70000 = n5 := by rw [← o5.length, L2.out]
      have HO5 := Lib.hid (HO4.out.later k5)
      clear o5 k5
      go_wp2_with fail
      refine (qlen_any 64 g F4 _ _ HO5.out.q).mono ?_
      rw [HH.out.1]
      rintro e w6 ⟨rfl, rfl⟩
      go_wp2_with fail
      refine (qclear_any 64 g F4 _ _ HO5.out.q).mono ?_
      rintro e w6 ⟨rfl, F6, q6, f6, k6⟩
      have HO6 := Lib.hid (HO5.out.step q6 f6 k6)
      clear q6 f6 k6
      go_wp2_with fail
      refine (qclear_nil _).mono ?_
      rintro e w7 ⟨rfl, rfl⟩
      go_wp2_with fail
      refine (qpop_nil _).mono ?_
      rintro e w7 ⟨rfl, rfl⟩
      go_wp2_with fail
      refine (qpeek_nil _).mono ?_
      rintro e w7 ⟨rfl, rfl⟩
      go_wp2_with fail
      refine (awake_any _).mono ?_
      rintro e w7 ⟨rfl, s7⟩
      have HO7 := Lib.hid (HO6.out.later s7)
      clear s7
      go_wp2_with fail
      refine (qlen_any 64 g F6 _ _ HO7.out.q).mono ?_
      rintro e w8 ⟨rfl, rfl⟩
      go_wp2_with fail
      refine (qfree_any 64 g F6 _ _ HO7.out.q).mono ?_
      rintro e w8 ⟨rfl, kd, rfl⟩
      go_wp2_with fail
      refine (qpush_nil _ _ _ _).mono ?_
      rintro e w8 ⟨rfl, rfl⟩
      obtain ⟨cs, hz, hq⟩ := qzero
      have HQ := Lib.hid hq
      clear hq
      go_wp2_with fail
      refine (HQ.out _ _ _ _).mono ?_
      rintro e w8 ⟨rfl, k8⟩
      have K8 := Lib.hid ((HO7.out.keep.drewN kd).trans k8)
      clear k8
      go_wp2_with fail
      refine (qlen_nil _).mono ?_
      rintro e w9 ⟨rfl, rfl⟩
      go_wp2_with fail
      refine (qfree_nil _).mono ?_
      rintro e w9 ⟨rfl, rfl⟩
      go_wp2_with fail
      refine (qall_nil _).mono ?_
      rintro e w9 ⟨A9, c9, rfl, k9⟩
      go_wp2_with fail
      go_ret
      exact ⟨rfl, K8.out.trans k9⟩
end Go.Proofs.Ythgplballiibnaa
