/- The walk of SinkKnown. -/
import Derived.Test.YtgelalbmhllccaaQal
namespace Go.Proofs.Ytgelalbmhllccaa
open Go.RowKit Lin
set_option linter.unusedVariables false
set_option linter.unusedSimpArgs false
def kkL1 : Nat → List (List Nat) := upd (fun _ => []) 0 [[1, 0, 0, 0, 1, 120]]
def kkL2 : Nat → List (List Nat) := upd kkL1 1 [[1, 0, 0, 0, 2, 120]]
theorem kk_ins : insB 1 5 [] [1, 0, 0, 0, 1, 120] = [[1, 0, 0, 0, 1, 120]] ∧ insB 1 5 [] [1, 0, 0, 0, 2, 120] = [[1, 0, 0, 0, 2, 120]] := by decide +kernel
theorem kk_l1 : yTakeL 1 5 2 0 (fun _ => []) 0 1 5 ([1] ++ [0, 0, 0, 1, 120]) = kkL1 := by
  rw [yTakeL, if_pos (by decide +kernel)]
  show upd _ 0 (insB 1 5 [] [1, 0, 0, 0, 1, 120]) = _
  rw [kk_ins.1]; rfl
theorem kk_l2 : yTakeL 1 5 2 0 kkL1 1 1 5 ([1] ++ [0, 0, 0, 2, 120]) = kkL2 := by
  rw [yTakeL, if_pos (by decide +kernel)]
  show upd _ 1 (insB 1 5 [] [1, 0, 0, 0, 2, 120]) = _
  rw [kk_ins.2]; rfl
theorem kk_rel0 : RelT 1 5 2 0 (fun _ => []) 1099511627776 [] 1099511627776 false := ⟨rfl, fun i hi => by simp at hi, fun e => (by cases e), fun _ => by decide +kernel⟩
theorem kk_rel1 : RelT 1 5 2 0 kkL2 0 [[120]] 1 true := ⟨rfl, fun i hi => by
  obtain rfl : i = 0 := by simp at hi; omega
  exact ⟨by decide +kernel, by decide +kernel, by decide +kernel⟩, fun _ => ⟨by decide +kernel, by decide +kernel⟩, fun e => (by cases e)⟩
theorem one_five (w : World) (x a b c d f : Nat) (h : ∀ z ∈ [x, a, b, c, d, f], z < 256) {w1 w2 : World} (h1 : w.alloc (.cells #[.int .u8 (x : Int)] 5) = w1) (h2 : w1.alloc (.cells #[.int .u8 (a : Int), .int .u8 (b : Int), .int .u8 (c : Int), .int .u8 (d : Int), .int .u8 (f : Int)] 5) = w2) :
    Bytes w2 w2.heap.size (some ⟨w.heap.size, 0, none⟩) 1 [x] ∧ Bytes w2 w2.heap.size (some ⟨w.heap.size + 1, 0, none⟩) 5 [a, b, c, d, f] ∧ Keep w w2 := by
  have o1 := Own.lit w 5 1 [x] #[.int .u8 (x : Int)] rfl rfl (by decide) (fun z hz => h z (by simp at hz ⊢; omega))
  have o2 := Own.lit w1 5 5 [a, b, c, d, f] #[.int .u8 (a : Int), .int .u8 (b : Int), .int .u8 (c : Int), .int .u8 (d : Int), .int .u8 (f : Int)] rfl rfl (by decide) (fun z hz => h z (by simp at hz ⊢; omega))
  rw [h1] at o1
  rw [h2] at o2
  have k1 : Keep w w1 := by rw [← h1]; exact (Keep.refl w).alloc _ _
  have k2 : Keep w1 w2 := by rw [← h2]; exact (Keep.refl w1).alloc _ _
  have s1 : w1.heap.size = w.heap.size + 1 := by rw [← h1]; simp
  rw [s1] at o2
  exact ⟨o1.bytes.keep (Nat.le_refl _) k2 |>.mono k2.size, o2.bytes, k1.trans k2⟩
set_option maxRecDepth 100000 in
set_option maxHeartbeats 4000000 in
theorem sknown_any (w : World) : Calls Try.prog 3 #[] w fun e w' => e = .returned (.bool true) ∧ Keep w w' := by
  go_enter Try.func3, Try.ntmps3
  go_wp2_with fail
  refine (sink_awake w).mono ?_
  rintro e w1 ⟨rfl, k1⟩
  have K1 := Lib.hid k1
  clear k1
  go_wp2_with fail
  refine (lsnew_out 1 4 0 (Or.inl (by decide)) w1).mono ?_
  rintro e w1' ⟨rfl, hw⟩
  obtain rfl : w1 = w1' := hw.symm
  go_wp2_with fail
  refine (lsnew_out 2 3 1099511627777 (Or.inr (by decide)) w1).mono ?_
  rintro e w1' ⟨rfl, hw⟩
  obtain rfl : w1 = w1' := hw.symm
  go_wp2_with fail
  refine (lsnew_in 1 5 1099511627776 (by decide) (by decide) w1).mono ?_
  rintro e w2 ⟨rfl, s2, k2⟩
  have S2 := Lib.hid s2
  have K2 := Lib.hid (K1.out.trans k2)
  have Z2 : Hid (w.heap.size ≤ w1.heap.size) := K1.out.size
  obtain ⟨q1, hq1⟩ : ∃ v, w1.heap.size = v := ⟨_, rfl⟩
  simp only [hq1] at S2 Z2 ⊢
  clear s2 k2 hq1 K1
  go_wp2_with fail
  refine (relnew_in (g := 1) (s := 5) (k := 2) (by decide) (by decide) (by decide) (by decide) (by decide) (by decide) w2).mono ?_
  rintro e w3 ⟨p, F3, rfl, r3, f3, k3⟩
  have R3 := Lib.hid r3
  have G3 : Hid (∀ x, F3 x → w2.heap.size ≤ x) := f3
  have S3 := Lib.hid (S2.out.keep k3)
  have K3 := Lib.hid (K2.out.trans k3)
  have hn3 : ¬ F3 q1 := fun e => by have h1 := f3 _ e; have h2 := S2.out.lt; omega
  have N3 := Lib.hid hn3
  have GWX : Hid (∀ x, F3 x → w.heap.size ≤ x) := fun x hx => Nat.le_trans K2.out.size (f3 x hx)
  clear r3 f3 k3 hn3 S2 K2 G3
  go_wp2_with fail
  refine (krel_in (g := 1) (s := 5) S3.out R3.out N3.out).mono ?_
  rintro e w4 ⟨A4, n4, c4, rs4, m4, br4, rfl, rt4, o4, l4, s4, y4, t4⟩
  obtain ⟨e1, rfl, rfl⟩ := rt4.only kk_rel0
  have n4e : n4 = 0 := by have h := o4.length; rw [← rowsXs_len, e1] at h; exact h.symm
  subst n4e
  have S4 := Lib.hid s4
  have R4 := Lib.hid y4
  have K4 := Lib.hid (t4.keep K3.out fun x e => by have := Z2.out; omega)
  clear o4 l4 s4 y4 t4 rt4 e1 S3 R3 K3
  go_wp2_with fail
  refine (ltotal_any S4.out 1099511627776 (by decide)).mono ?_
  rw [show ltotE 1099511627776 0 1099511627776 false = 0 from by decide +kernel, show ltotOf 1099511627776 0 1099511627776 false = 1099511627776 from by decide +kernel, show ltotKn 1099511627776 0 1099511627776 false = true from by decide +kernel]
  rintro e w5 ⟨rfl, s5, t5⟩
  have S5 := Lib.hid s5
  have R5 := Lib.hid (R4.out.turned t5 fun a ha e => N3.out (e ▸ ha))
  have K5 := Lib.hid (t5.keep K4.out fun x e => by have := Z2.out; omega)
  clear s5 t5 S4 R4 K4
  go_wp2_with fail
  refine (ldone_any S5.out).mono ?_
  rw [show (true && decide ((1099511627776 : Nat) = 1099511627776)) = true from by decide +kernel]
  rintro e w6 ⟨rfl, m6, rfl⟩
  have KD : Keep w5 (w5.drewN m6) := (Keep.refl w5).drewN m6
  have R6 := Lib.hid (R5.out.keep KD)
  have K6 := Lib.hid (K5.out.trans KD)
  obtain ⟨w6, hw6⟩ : ∃ v, w5.drewN m6 = v := ⟨_, rfl⟩
  rw [hw6] at R6 K6 ⊢
  clear KD hw6 S5 R5 K5
  go_wp2_with fail
  refine (lsnew_in 1 5 0 (by decide) (by decide) w6).mono ?_
  rintro e w7 ⟨rfl, s7, k7⟩
  have S7 := Lib.hid s7
  have R7 := Lib.hid (R6.out.keep k7)
  have K7 := Lib.hid (K6.out.trans k7)
  have hn7 : ¬ F3 w6.heap.size := fun e => by have := R6.out.lt _ e; omega
  have N7 := Lib.hid hn7
  have Z7 : Hid (w.heap.size ≤ w6.heap.size) := K6.out.size
  obtain ⟨q, hq⟩ : ∃ v, w6.heap.size = v := ⟨_, rfl⟩
  simp only [hq] at S7 N7 Z7 ⊢
  clear s7 k7 hn7 hq R6 K6 N3
  go_wp2_with fail
  obtain ⟨wa8, hwa⟩ : ∃ v, w7.alloc (.cells #[.int .u8 1] 5) = v := ⟨_, rfl⟩
  obtain ⟨wb8, hwb⟩ : ∃ v, wa8.alloc (.cells #[.int .u8 0, .int .u8 0, .int .u8 0, .int .u8 1, .int .u8 120] 5) = v := ⟨_, rfl⟩
  have HL8 := Lib.hid (one_five w7 1 0 0 0 1 120 (by decide) hwa hwb)
  rw [hwa, hwb]
  clear hwa hwb
  have ht := rl_take_all (R7.out.keep HL8.out.2.2) 0 (by decide) _ _ 1 5 1 5 _ _ [1] [0, 0, 0, 1, 120] (Nat.le_refl _) (Nat.le_refl _) HL8.out.1 HL8.out.2.1 (Nat.le_refl _) (Nat.le_refl _)
  rw [kk_l1] at ht
  refine ht.mono ?_
  clear ht
  rintro e v8 ⟨rfl, H8, r8, f8, t8⟩
  have R8 := Lib.hid r8
  have GWX8 : Hid (∀ x, H8 x → w.heap.size ≤ x) := fun x hx => by
    rcases f8 x hx with e | e
    · exact GWX.out x e
    · have := K7.out.size; have := HL8.out.2.2.size; omega
  have K8 := Lib.hid (t8.keep (K7.out.trans HL8.out.2.2) GWX.out)
  have S8 := Lib.hid ((S7.out.keep HL8.out.2.2).turned t8 N7.out)
  have N8 : Hid (¬ H8 q) := fun e => by
    rcases f8 _ e with e | e
    · exact N7.out e
    · have h1 := S7.out.lt; have h2 := HL8.out.2.2.size; omega
  clear r8 f8 t8 R7 S7 N7 K7 HL8 GWX
  go_wp2_with fail
  obtain ⟨wa9, hwa⟩ : ∃ v, v8.alloc (.cells #[.int .u8 1] 5) = v := ⟨_, rfl⟩
  obtain ⟨wb9, hwb⟩ : ∃ v, wa9.alloc (.cells #[.int .u8 0, .int .u8 0, .int .u8 0, .int .u8 2, .int .u8 120] 5) = v := ⟨_, rfl⟩
  have HL9 := Lib.hid (one_five v8 1 0 0 0 2 120 (by decide) hwa hwb)
  rw [hwa, hwb]
  clear hwa hwb
  have ht := rl_take_all (R8.out.keep HL9.out.2.2) 1 (by decide) _ _ 1 5 1 5 _ _ [1] [0, 0, 0, 2, 120] (Nat.le_refl _) (Nat.le_refl _) HL9.out.1 HL9.out.2.1 (Nat.le_refl _) (Nat.le_refl _)
  rw [kk_l2] at ht
  refine ht.mono ?_
  clear ht
  rintro e v9 ⟨rfl, H9, r9, f9, t9⟩
  have R9 := Lib.hid r9
  have GWX9 : Hid (∀ x, H9 x → w.heap.size ≤ x) := fun x hx => by
    rcases f9 x hx with e | e
    · exact GWX8.out x e
    · have := K8.out.size; have := HL9.out.2.2.size; omega
  have K9 := Lib.hid (t9.keep (K8.out.trans HL9.out.2.2) GWX8.out)
  have S9 := Lib.hid ((S8.out.keep HL9.out.2.2).turned t9 N8.out)
  have N9 : Hid (¬ H9 q) := fun e => by
    rcases f9 _ e with e | e
    · exact N8.out e
    · have h1 := S8.out.lt; have h2 := HL9.out.2.2.size; omega
  clear r9 f9 t9 R8 S8 N8 K8 HL9 GWX8
  go_wp2_with fail
  refine (krel_in (g := 1) (s := 5) S9.out R9.out N9.out).mono ?_
  rintro e u1 ⟨A5, n5, c5, rs5, m5, br5, rfl, rt5, o5, l5, s5, y5, t5⟩
  obtain ⟨e1, rfl, rfl⟩ := rt5.only kk_rel1
  have n5e : n5 = 1 := by have h := o5.length; rw [← rowsXs_len, e1] at h; exact h.symm
  subst n5e
  have U1 := Lib.hid s5
  have K10 := Lib.hid (t5.keep K9.out fun x e => by have := Z7.out; omega)
  have hA5 : RowsIn u1 (fun x => ¬ x = q ∧ x < u1.heap.size) A5 1 rs5 := RowsIn.of_own o5 (fun r hr => (l5 r hr).lies.mono fun x e => ⟨fun e2 => by have h1 := (ownblock_cells (l5 r hr).1 e).1; have h2 := S9.out.lt; omega, ((l5 r hr).1.lt x e).2⟩) fun x e => ⟨fun e2 => by have h1 := (ownblock_cells o5 e).1; have h2 := S9.out.lt; omega, (o5.lt x e).2⟩
  obtain ⟨bA, oA, r0, rfl, hb1, hr0, hc0, hl0⟩ := hA5.at_ (k := 0) (by decide)
  have hx0 : r0.xs = [120] := by
    have h := rowsXs_at hr0
    rw [e1] at h
    exact h.symm
  obtain ⟨A0, n0, c0, x0⟩ := r0
  simp only at hx0 hc0
  subst hx0
  have n0e : n0 = 1 := hl0.1.symm
  subst n0e
  have HC := Lib.hid (And.intro hb1 (And.intro hc0 hl0))
  clear o5 l5 s5 y5 t5 rt5 e1 hA5 hr0 hb1 hc0 hl0 S9 N9 K9 R9
  go_wp2_with fail
  refine (lbroken_any U1.out).mono ?_
  rintro e u1' ⟨rfl, rfl⟩
  go_wp2_with fail
  refine (krel_br U1.out).mono ?_
  rintro e u2 ⟨rfl, k2⟩
  have U2 := Lib.hid (U1.out.keep k2)
  have K11 := Lib.hid (K10.out.trans k2)
  have Q2 : Hid (Turned (fun a => a = q) u1 u2) := Turned.of_keep k2
  clear k2 U1 K10
  go_wp2_with fail
  refine (ltotal_any U2.out 2 (by decide)).mono ?_
  rw [show ltotE 1 0 2 false = 0 from by decide +kernel, show ltotOf 1 0 2 false = 2 from by decide +kernel, show ltotKn 1 0 2 false = true from by decide +kernel]
  rintro e u3 ⟨rfl, s3, t3⟩
  have U3 := Lib.hid s3
  have K12 := Lib.hid (t3.keep K11.out fun x e => by have := Z7.out; omega)
  have Q3 := Lib.hid (Q2.out.trans t3 fun j e => Or.inl e)
  clear s3 t3 U2 K11 Q2
  go_wp2_with fail
  refine (ltotal_any U3.out 3 (by decide)).mono ?_
  rw [show ltotE 1 2 3 true = 9 from by decide +kernel, show ltotOf 1 2 3 true = 2 from by decide +kernel, show ltotKn 1 2 3 true = true from by decide +kernel]
  rintro e u4 ⟨rfl, s3, t3⟩
  have U4 := Lib.hid s3
  have K13 := Lib.hid (t3.keep K12.out fun x e => by have := Z7.out; omega)
  have Q4 := Lib.hid (Q3.out.trans t3 fun j e => Or.inl e)
  clear s3 t3 U3 K12 Q3
  go_wp2_with fail
  refine (ltotal_any U4.out 0 (by decide)).mono ?_
  rw [show ltotE 1 2 0 true = 1 from by decide +kernel, show ltotOf 1 2 0 true = 2 from by decide +kernel, show ltotKn 1 2 0 true = true from by decide +kernel]
  rintro e u5 ⟨rfl, s3, t3⟩
  have U5 := Lib.hid s3
  have K14 := Lib.hid (t3.keep K13.out fun x e => by have := Z7.out; omega)
  have Q5 := Lib.hid (Q4.out.trans t3 fun j e => Or.inl e)
  clear s3 t3 U4 K13 Q4
  go_wp2_with fail
  refine (lknown_any U5.out).mono ?_
  rintro e u6 ⟨rfl, m, rfl⟩
  obtain ⟨u6, hu6⟩ : ∃ v, u5.drewN m = v := ⟨_, rfl⟩
  have U6 := Lib.hid (U5.out.drewN m)
  have K15 := Lib.hid (K14.out.drewN m)
  have Q6 : Hid (Turned (fun a => a = q) u1 (u5.drewN m)) := Q5.out.trans (Turned.of_keep (F := fun a => a = q) ((Keep.refl u5).drewN m)) fun j e => Or.inl e
  rw [hu6] at U6 K15 Q6 ⊢
  clear hu6 U5 K14 Q5
  go_wp2_with fail
  refine (krel_nil U6.out).mono ?_
  rintro e u7 ⟨rfl, k7⟩
  have U7 := Lib.hid (U6.out.keep k7)
  have K16 := Lib.hid (K15.out.trans k7)
  have Q7 := Lib.hid (Q6.out.then_keep k7)
  clear k7 U6 K15 Q6
  go_wp2_with fail
  refine (krel_none u7 _).mono ?_
  rintro e u8 ⟨rfl, k7⟩
  have U8 := Lib.hid (U7.out.keep k7)
  have K17 := Lib.hid (K16.out.trans k7)
  have Q8 := Lib.hid (Q7.out.then_keep k7)
  clear k7 U7 K16 Q7
  go_wp2_with fail
  refine (lknown_none u8).mono ?_
  rintro e u8' ⟨rfl, hw⟩
  obtain rfl : u8 = u8' := hw.symm
  have f1 := Q8.out.cell HC.out.2.1 HC.out.1.1
  simp only [Nat.add_zero] at f1
  have f2 := run_str ((HC.out.2.2.turned Q8.out fun b e => e.1).bytes (B := u8.heap.size) fun b e => Nat.lt_of_lt_of_le e.2 Q8.out.size) Try.underlying37 Try.underlying5 Try.underlying9 c0
  have f3 : ((strN [120]).toList == [120]) = true := by kernel_rfl
  go_wp2_with fail
  refine (ldelivered_any U8.out).mono ?_
  rintro e u8' ⟨rfl, rfl⟩
  go_wp2_with fail
  refine (ltotal_none 0 u8).mono ?_
  rintro e u8' ⟨rfl, hw⟩
  obtain rfl : u8 = u8' := hw.symm
  go_wp2_with fail
  refine (ldelivered_none u8).mono ?_
  rintro e u8' ⟨rfl, hw⟩
  obtain rfl : u8 = u8' := hw.symm
  go_wp2_with fail
  refine (ldone_none u8).mono ?_
  rintro e u8' ⟨rfl, hw⟩
  obtain rfl : u8 = u8' := hw.symm
  go_wp2_with fail
  refine (lbroken_none u8).mono ?_
  rintro e u8' ⟨rfl, hw⟩
  obtain rfl : u8 = u8' := hw.symm
  go_wp2_with fail
  go_ret
  exact ⟨rfl, K17.out⟩
end Go.Proofs.Ytgelalbmhllccaa
