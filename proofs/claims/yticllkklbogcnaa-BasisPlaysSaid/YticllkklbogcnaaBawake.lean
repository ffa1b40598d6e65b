/- What the chapter's examples say: layer 7's statements ask it first. -/
import Derived.Test.YticllkklbogcnaaBd
namespace Go.Proofs.Yticllkklbogcnaa
open Go.RowKit
set_option linter.unusedVariables false
set_option linter.unusedSimpArgs false
/-- Two literals of bytes, one behind the other. -/
theorem two_lits (w : World) (xs ys : List Nat) (n m : Nat) (hn : xs.length = n) (hm : ys.length = m) (h1 : n ≤ 1000) (h2 : m ≤ 1000) (hx : AllB xs) (hy : AllB ys) (cs ds : Array Value) (hc : cs = (u8s xs).toArray) (hd : ds = (u8s ys).toArray) {w2 : World} (hw : (w.alloc (.cells cs 5)).alloc (.cells ds 5) = w2) :
    Bytes w2 w2.heap.size (some ⟨w.heap.size, 0, none⟩) n xs ∧ Bytes w2 w2.heap.size (some ⟨w.heap.size + 1, 0, none⟩) m ys ∧ Keep w w2 := by
  subst hw
  have o1 := Own.lit w 5 n xs cs hc hn (by omega) hx
  have o2 := Own.lit (w.alloc (.cells cs 5)) 5 m ys ds hd hm (by omega) hy
  have hs : (w.alloc (.cells cs 5)).heap.size = w.heap.size + 1 := by simp
  rw [hs] at o2
  exact ⟨(o1.keep ((Keep.refl _).alloc _ _)).bytes, o2.bytes, ((Keep.refl w).alloc _ _).alloc _ _⟩
theorem ex_one : ¬ inB 2 1 [] ([2, 4] ++ [6]) ∧ insB 2 1 [] ([2, 4] ++ [6]) = [[1, 2, 3]] := by decide +kernel
theorem ex_two : inB 2 1 [[1, 2, 3]] ([1, 2] ++ [9]) ∧ insB 2 1 [[1, 2, 3]] ([1, 2] ++ [9]) = [[1, 2, 3]] := by decide +kernel
theorem ex_three : ¬ inB 2 1 [[1, 2, 3]] ([0, 3] ++ [5]) ∧ (insB 2 1 [[1, 2, 3]] ([0, 3] ++ [5])).length = 2 := by decide +kernel
set_option maxRecDepth 100000 in
set_option maxHeartbeats 2000000 in
theorem awake_any (w : World) : Calls Try.prog 9 #[] w fun e w' => e = .returned (.bool true) ∧ Keep w w' := by
  go_enter Try.func9, Try.ntmps9
  go_wp2_with fail
  refine (bnew_in 2 1 (by decide) (by decide) (by decide) (by decide) _).mono ?_
  rintro e w1 ⟨b, F, rfl, r1, f1, k1⟩
  have R1 := Lib.hid r1
  have F1 := Lib.hid f1
  have K1 := Lib.hid k1
  clear r1 f1 k1
  go_wp2_with fail
  obtain ⟨wl, hwl⟩ : ∃ wl, (w1.alloc (.cells #[.int .u8 2, .int .u8 4] 5)).alloc (.cells #[.int .u8 6] 5) = wl := ⟨_, rfl⟩
  have HL := Lib.hid (two_lits w1 [2, 4] [6] 2 1 rfl rfl (by decide) (by decide) (by decide) (by decide) _ _ rfl rfl hwl)
  rw [hwl]
  clear hwl
  refine (rowR_any _ _ 2 1 2 1 _).mono ?_
  rintro e w2 ⟨rfl, k2⟩
  have K2 := Lib.hid (HL.out.2.2.trans k2)
  have HB1 := Lib.hid (And.intro (HL.out.1.keep (Nat.le_refl _) k2) (And.intro (HL.out.2.1.keep (Nat.le_refl _) k2) k2.size))
  clear k2 HL
  go_wp2_with fail
  refine (binsert_in (R1.out.keep K2.out) _ _ 2 1 _ _ [2, 4] [6] (Nat.le_refl _) (Nat.le_refl _) HB1.out.1 HB1.out.2.1 HB1.out.2.2 HB1.out.2.2).mono ?_
  rw [decide_eq_false ex_one.1, ex_one.2]
  rintro e w3 ⟨rfl, F', r3, f3, t3⟩
  have R3 := Lib.hid r3
  have hfw : ∀ k, F' k → w.heap.size ≤ k := fun k hk => by
    rcases f3 k hk with h | h
    · exact Nat.le_trans (Nat.le_refl _) (F1.out k h)
    · have := K1.out.size; have := K2.out.size; omega
  have K3 : Hid (Keep w w3) := t3.keep (K1.out.trans K2.out) fun k hk => F1.out k hk
  have F3 := Lib.hid hfw
  clear r3 f3 t3 hfw R1 F1 HB1 K1 K2
  go_wp2_with fail
  refine (brows_any R3.out).mono ?_
  rintro e w4 ⟨A4, n4, c4, ps, rfl, o4⟩
  have O4 := Lib.hid o4
  clear o4
  go_wp2_with fail
  refine (bsolve_low (R3.out.keep O4.out.2.2.2) (by decide)).mono ?_
  rintro e w5 ⟨rfl, k5⟩
  have S5 : Hid (StIn w5 (fun b => b < w5.heap.size ∧ ¬ F' b) A4 n4 ps ∧ ps.map PairV.xs = [[1, 2, 3]] ∧ (∀ p ∈ ps, p.a.xs.length = 2) ∧ n4 ≤ 1) := by
    have h1 := O4.out.stIn.keep k5
    have hl : n4 = 1 := by
      have := O4.out.1.length
      have h2 := congrArg List.length O4.out.2.2.1
      simp at h2; omega
    refine ⟨h1.mono fun k hk => ⟨Nat.lt_of_lt_of_le hk.2 k5.size, fun e => by
      have := R3.out.fine.2.2.2.2.2 k e
      omega⟩, O4.out.2.2.1, fun p hp => ?_, by omega⟩
    rw [(O4.out.2.1 p hp).1.length, (O4.out.2.1 p hp).2.2.1]
  have K5 := Lib.hid (K3.out.trans (O4.out.2.2.2.trans k5))
  have R5 := Lib.hid ((R3.out.keep O4.out.2.2.2).keep k5)
  clear k5 O4 R3 K3
  go_wp2_with fail
  obtain ⟨wl, hwl⟩ : ∃ wl, (w5.alloc (.cells #[.int .u8 1, .int .u8 2] 5)).alloc (.cells #[.int .u8 9] 5) = wl := ⟨_, rfl⟩
  have HL := Lib.hid (two_lits w5 [1, 2] [9] 2 1 rfl rfl (by decide) (by decide) (by decide) (by decide) _ _ rfl rfl hwl)
  rw [hwl]
  clear hwl
  refine (rowR_any _ _ 2 1 2 1 _).mono ?_
  rintro e w6 ⟨rfl, k6⟩
  have K6 := Lib.hid (HL.out.2.2.trans k6)
  have HB1 := Lib.hid (And.intro (HL.out.1.keep (Nat.le_refl _) k6) (And.intro (HL.out.2.1.keep (Nat.le_refl _) k6) k6.size))
  clear k6 HL
  go_wp2_with fail
  refine (binsert_in (R5.out.keep K6.out) _ _ 2 1 _ _ [1, 2] [9] (Nat.le_refl _) (Nat.le_refl _) HB1.out.1 HB1.out.2.1 HB1.out.2.2 HB1.out.2.2).mono ?_
  rw [decide_eq_true ex_two.1, ex_two.2]
  rintro e w7 ⟨rfl, F7, r7, f7, t7⟩
  have R7 := Lib.hid r7
  have hfw : ∀ k, F7 k → w.heap.size ≤ k ∧ (F' k ∨ w5.heap.size ≤ k) := fun k hk => by
    rcases f7 k hk with h | h
    · exact ⟨F3.out k h, Or.inl h⟩
    · have := K5.out.size; have := K6.out.size; exact ⟨by omega, Or.inr (by omega)⟩
  have K7 : Hid (Keep w w7) := t7.keep (K5.out.trans K6.out) fun k hk => F3.out k hk
  have S7 : Hid (StIn w7 (fun b => b < w7.heap.size ∧ ¬ F7 b) A4 n4 ps ∧ ps.map PairV.xs = [[1, 2, 3]] ∧ (∀ p ∈ ps, p.a.xs.length = 2) ∧ n4 ≤ 1) := by
    refine ⟨((S5.out.1.keep K6.out).turned t7 fun k hk e => hk.2 e).mono fun k hk => ⟨?_, fun e => ?_⟩, S5.out.2⟩
    · have := K6.out.size; have := t7.size; omega
    · rcases (hfw k e).2 with h | h
      · exact hk.2 h
      · have := hk.1; omega
  have F7 := Lib.hid fun k hk => (hfw k hk).1
  clear r7 f7 t7 hfw R5 F3 HB1 K5 K6 S5
  go_wp2_with fail
  obtain ⟨wl, hwl⟩ : ∃ wl, (w7.alloc (.cells #[.int .u8 0, .int .u8 3] 5)).alloc (.cells #[.int .u8 5] 5) = wl := ⟨_, rfl⟩
  have HL := Lib.hid (two_lits w7 [0, 3] [5] 2 1 rfl rfl (by decide) (by decide) (by decide) (by decide) _ _ rfl rfl hwl)
  rw [hwl]
  clear hwl
  refine (rowR_any _ _ 2 1 2 1 _).mono ?_
  rintro e w8 ⟨rfl, k8⟩
  have K8 := Lib.hid (HL.out.2.2.trans k8)
  have HB1 := Lib.hid (And.intro (HL.out.1.keep (Nat.le_refl _) k8) (And.intro (HL.out.2.1.keep (Nat.le_refl _) k8) k8.size))
  clear k8 HL
  go_wp2_with fail
  refine (binsert_in (R7.out.keep K8.out) _ _ 2 1 _ _ [0, 3] [5] (Nat.le_refl _) (Nat.le_refl _) HB1.out.1 HB1.out.2.1 HB1.out.2.2 HB1.out.2.2).mono ?_
  rw [decide_eq_false ex_three.1]
  rintro e w9 ⟨rfl, F9, r9, f9, t9⟩
  have R9 := Lib.hid r9
  have K9 : Hid (Keep w w9) := t9.keep (K7.out.trans K8.out) fun k hk => F7.out k hk
  have S9 : Hid (StIn w9 (fun b => b < w9.heap.size) A4 n4 ps) := ((S7.out.1.keep K8.out).turned t9 fun k hk e => hk.2 e).mono fun k hk => by
    have := K8.out.size; have := t9.size; show k < _; omega
  clear r9 f9 t9 R7 F7 HB1 K7 K8
  go_wp2_with fail
  refine (brank_any R9.out).mono ?_
  rw [ex_three.2]
  rintro e w10 ⟨rfl, k10⟩
  have K10 := Lib.hid (K9.out.trans k10)
  have S10 := Lib.hid (S9.out.keep k10)
  have hz10 := k10.size
  clear k10 R9 K9
  go_wp2_with fail
  obtain ⟨wl, hwl⟩ : ∃ wl, (w10.alloc (.cells #[.int .u8 1, .int .u8 2] 5)).alloc (.cells #[.int .u8 3] 5) = wl := ⟨_, rfl⟩
  have HL := Lib.hid (two_lits w10 [1, 2] [3] 2 1 rfl rfl (by decide) (by decide) (by decide) (by decide) _ _ rfl rfl hwl)
  rw [hwl]
  clear hwl
  refine (rowR_any _ _ 2 1 2 1 _).mono ?_
  rintro e w11 ⟨rfl, k11⟩
  have K11 := Lib.hid (HL.out.2.2.trans k11)
  have HB1 := Lib.hid (And.intro (HL.out.1.keep (Nat.le_refl _) k11) (And.intro (HL.out.2.1.keep (Nat.le_refl _) k11) k11.size))
  clear k11 HL
  go_wp2_with fail
  have kl : Keep w11 (w11.alloc (.cells #[.slice (some ⟨w10.heap.size, 0, none⟩) 2 2, .slice (some ⟨w10.heap.size + 1, 0, none⟩) 1 1] 33)) := (Keep.refl w11).alloc _ _
  have hst : StIn (w11.alloc (.cells #[.slice (some ⟨w10.heap.size, 0, none⟩) 2 2, .slice (some ⟨w10.heap.size + 1, 0, none⟩) 1 1] 33)) (fun b => b < w11.heap.size + 1) (some ⟨w11.heap.size, 0, none⟩) 1 [⟨⟨some ⟨w10.heap.size, 0, none⟩, 2, 2, [1, 2]⟩, ⟨some ⟨w10.heap.size + 1, 0, none⟩, 1, 1, [3]⟩⟩] := by
    refine ⟨rfl, fun p hp => ?_, fun _ => ⟨_, 0, rfl, by omega, fun i p hi => ?_⟩⟩
    · rw [List.mem_singleton] at hp
      subst hp
      have b1 := (HB1.out.1.keep HB1.out.2.2 kl)
      have b2 := (HB1.out.2.1.keep HB1.out.2.2 kl)
      have hz := HB1.out.2.2
      exact ⟨(LiesIn.of_bytes (r := ⟨some ⟨w10.heap.size, 0, none⟩, 2, 2, [1, 2]⟩) b1 (Nat.le_refl _)).mono fun b hb => by show b < _; have hb : b < _ := hb; omega, (LiesIn.of_bytes (r := ⟨some ⟨w10.heap.size + 1, 0, none⟩, 1, 1, [3]⟩) b2 (Nat.le_refl _)).mono fun b hb => by show b < _; have hb : b < _ := hb; omega⟩
    · match i, hi with
      | 0, hi =>
        simp at hi
        subst hi
        exact ⟨by rw [World.cell?_alloc_at _ _ _ _ (by simp)]; rfl, by rw [World.cell?_alloc_at _ _ _ _ (by simp)]; rfl⟩
      | i + 1, hi => simp at hi
  refine (bsame_any n4 1 _ _ A4 _ _ _ ps _ _ ((S10.out.keep K11.out).keep kl) hst (fun b hb => by have := K11.out.size; simp at hb ⊢; omega) (fun b hb => by simp; exact hb) (by have := S7.out.2.2.2; omega)).mono ?_
  have hps : pairXs ps = pairXs [⟨⟨some ⟨w10.heap.size, 0, none⟩, 2, 2, [1, 2]⟩, ⟨some ⟨w10.heap.size + 1, 0, none⟩, 1, 1, [3]⟩⟩] := by
    have h1 := S7.out.2.1
    have h2 := S7.out.2.2.1
    match ps, h1, h2 with
    | [p], h1, h2 =>
      have h3 := h2 p (by simp)
      simp [PairV.xs] at h1
      have e1 : p.a.xs = [1, 2] := by
        have := congrArg (List.take 2) h1
        rw [List.take_append_of_le_length (by omega), List.take_of_length_le (by omega)] at this
        exact this
      have e2 : p.b.xs = [3] := by rw [e1] at h1; simpa using h1
      simp [pairXs, e1, e2]
    | [], h1, h2 => simp at h1
    | _ :: _ :: _, h1, h2 => simp at h1
  rw [decide_eq_true hps]
  rintro e w12 ⟨rfl, k12⟩
  have K12 := Lib.hid (K10.out.trans ((K11.out.trans kl).trans k12))
  clear k12 hst kl
  go_wp2_with fail
  go_ret
  exact ⟨rfl, K12.out⟩
end Go.Proofs.Yticllkklbogcnaa
