/- RelayKnown: the chapter's rows, none, limits. -/
import Derived.Test.YtcjjhblgejkkeaaRwk
namespace Go.Proofs.Ytcjjhblgejkkeaa
open Go.RowKit Lin
set_option linter.unusedVariables false
set_option linter.unusedSimpArgs false
section
variable {w : World} {v : Value}
theorem rl_take_nil (n n1 n2 c1 c2 : Nat) (A1 A2 : Option Addr) (hv : ∀ w', Keep w w' → Calls Try.prog 43 #[v] w' fun e w'' => e = .returned (.bool false) ∧ w'' = w') :
    Calls Try.prog 9 #[v, .int .u64 (n : Int), .agg #[.slice A1 n1 c1, .slice A2 n2 c2]] w fun e w' => e = .returned (.tuple #[.bool false, .int .i64 2]) ∧ Keep w w' := by
  have rk : Keep w (w.alloc (.cells #[.slice A1 n1 c1, .slice A2 n2 c2] 35)) := (Keep.refl w).alloc _ _
  refine (rl_take_of _ _ _ n w (Q := fun a c w' => a = .bool false ∧ c = .int .i64 2 ∧ Keep w w') ((ask_bool_nil n _ v (hv _ rk)).mono fun e w' hh => ⟨_, _, hh.1, rfl, rfl, hh.2 ▸ rk⟩) ⟨_, _, _, rfl⟩ ⟨_, _, _, rfl⟩).mono fun e w' hh => ?_
  obtain ⟨a, c, e1, rfl, rfl, e2⟩ := hh
  exact ⟨e1, e2⟩
theorem rl_solve_nil (n : Nat) (hv : ∀ w', Keep w w' → Calls Try.prog 43 #[v] w' fun e w'' => e = .returned (.bool false) ∧ w'' = w') :
    Calls Try.prog 20 #[v, .int .u64 (n : Int)] w fun e w' => e = .returned (.tuple #[.slice none 0 0, .int .i64 2]) ∧ w' = w := by
  refine (rl_solve_of _ n w (Q := fun a c w' => a = .slice none 0 0 ∧ c = .int .i64 2 ∧ w' = w) ((ask_syms_nil n v (hv w (Keep.refl w))).mono fun e w' hh => ⟨_, _, hh.1, rfl, rfl, hh.2⟩)).mono fun e w' hh => ?_
  obtain ⟨a, c, e1, rfl, rfl, e2⟩ := hh
  exact ⟨e1, e2⟩
theorem rl_rank_nil (n : Nat) (hv : ∀ w', Keep w w' → Calls Try.prog 43 #[v] w' fun e w'' => e = .returned (.bool false) ∧ w'' = w') :
    Calls Try.prog 11 #[v, .int .u64 (n : Int)] w fun e w' => e = .returned (.int .i64 0) ∧ w' = w := by
  have HA := Lib.hid (ask_int_nil n v (hv w (Keep.refl w)))
  clear hv
  go_enter Try.func11, Try.ntmps11
  go_wp2_with fail
  refine HA.out.mono ?_
  rintro e w1 ⟨rfl, rfl⟩
  go_wp2_with fail
  go_ret
  exact ⟨rfl, rfl⟩
theorem rl_rows_nil (n : Nat) (hv : ∀ w', Keep w w' → Calls Try.prog 43 #[v] w' fun e w'' => e = .returned (.bool false) ∧ w'' = w') :
    Calls Try.prog 14 #[v, .int .u64 (n : Int)] w fun e w' => e = .returned (.slice none 0 0) ∧ w' = w := by
  have HA := Lib.hid (ask_rows_nil n v (hv w (Keep.refl w)))
  clear hv
  go_enter Try.func14, Try.ntmps14
  go_wp2_with fail
  refine HA.out.mono ?_
  rintro e w1 ⟨rfl, rfl⟩
  go_wp2_with fail
  go_ret
  exact ⟨rfl, rfl⟩
theorem ask_row_nil' (n q5 q6 : Nat) (v : Value) (hv : ∀ w', Keep w w' → Calls Try.prog 43 #[v] w' fun e w'' => e = .returned (.bool false) ∧ w'' = w') :
    Calls Try.prog 33 #[v, .int .u64 (n : Int), .func (.func 34) #[] #[.pointer (some ⟨q5, 0, none⟩), .pointer (some ⟨q6, 0, none⟩)]] w (NewRow w [] [] 2) := by
  have hw0 := two_blocks w
  obtain ⟨w2, hw2⟩ : ∃ w2, ((w.alloc (.cells #[.slice none 0 0, .slice none 0 0] 35)).alloc (.cells #[.slice none 0 0, .slice none 0 0] 35)) = w2 := ⟨_, rfl⟩
  rw [hw2] at hw0
  have H0 := Lib.hid hw0
  have HM := Lib.hid (hv w2 hw0.2.2)
  clear hv hw0
  go_enter Try.func33, Try.ntmps33
  go_wp2_with fail
  refine HM.out.mono ?_
  rintro e w1 ⟨rfl, rfl⟩
  have y0 : w1.cell? ⟨w.heap.size, 0, none⟩ = some (.slice none 0 0) := cell_of_row _ _ _ _ _ _ H0.out.1
  have y1 : w1.cell? ⟨w.heap.size, 1, none⟩ = some (.slice none 0 0) := cell_of_row _ _ _ _ _ _ H0.out.1
  have z0 : w1.frozen? ⟨w.heap.size, 0, none⟩ = false := by simp [World.frozen?, H0.out.1]
  have z1 : w1.frozen? ⟨w.heap.size, 1, none⟩ = false := by simp [World.frozen?, H0.out.1]
  have y2 : w1.cell? ⟨w.heap.size + 1, 0, none⟩ = some (.slice none 0 0) := cell_of_row _ _ _ _ _ _ H0.out.2.1
  have y3 : w1.cell? ⟨w.heap.size + 1, 1, none⟩ = some (.slice none 0 0) := cell_of_row _ _ _ _ _ _ H0.out.2.1
  go_wp2_with fail
  have hb := bset (i := 1) (bset (i := 0) H0.out.1 (.slice none 0 0)) (.slice none 0 0)
  have hk : Keep w ((w1.setCell ⟨w.heap.size, 0, none⟩ (.slice none 0 0)).setCell ⟨w.heap.size, 1, none⟩ (.slice none 0 0)) := (H0.out.2.2.setCell (a := ⟨w.heap.size, 0, none⟩) (Nat.le_refl _) _).setCell (a := ⟨w.heap.size, 1, none⟩) (Nat.le_refl _) _
  refine bodyPost_ret (v := .tuple #[.agg #[.slice none 0 0, .slice none 0 0], .int .i64 2]) ?_ rfl ⟨none, 0, 0, none, 0, 0, rfl, Own.none_ _ _ _, Own.none_ _ _ _, hk⟩
  exact results_cell_tmp (p := 6) (u := 7) (ty := 35) rfl _ _ w.heap.size 35 _ (0, 0) _ rfl hb Try.underlying35 rfl infoRowSize
theorem rl_send_nil (n sent m cb : Nat) (Ab : Option Addr) (hv : ∀ w', Keep w w' → Calls Try.prog 43 #[v] w' fun e w'' => e = .returned (.bool false) ∧ w'' = w') :
    Calls Try.prog 12 #[v, .int .u64 (n : Int), .int .u64 (sent : Int), .slice Ab m cb] w (NewRow w [] [] 2) := by
  obtain ⟨w3, hw⟩ : ∃ w3, (((w.alloc (.cells #[.int .u64 (sent : Int)] 33)).alloc (.cells #[.slice Ab m cb] 22)).alloc (.cells #[.slice none 0 0, .slice none 0 0] 35)) = w3 := ⟨_, rfl⟩
  obtain ⟨-, -, -, -, rk⟩ := three_boxes w sent m cb Ab hw
  exact rl_send_of _ n sent m cb Ab w w3 _ _ 2 hw (ask_row_nil' n _ _ v fun w' k => hv w' (rk.trans k))
end
set_option maxRecDepth 100000 in
set_option maxHeartbeats 4000000 in
theorem rknown_any (w : World) : Calls Try.prog 6 #[] w fun e w' => e = .returned (.bool true) ∧ Keep w w' := by
  have HN : Hid (∀ w0 w' : World, Keep w0 w' → Calls Try.prog 43 #[.pointer none] w' fun e w'' => e = .returned (.bool false) ∧ w'' = w') := fun _ w' _ => rmade_nil w'
  obtain ⟨w1, hw1⟩ : ∃ w1, w.alloc (.cells #[Value.pointer none, Value.int .i64 0, Value.int .i64 0, Value.pointer none, Value.pointer none, Value.pointer none, Value.pointer none, Value.pointer none, Value.pointer none, Value.pointer none, Value.pointer none, Value.pointer none, Value.pointer none, Value.pointer none, Value.pointer none, Value.pointer none, Value.pointer none, Value.pointer none, Value.pointer none] 59) = w1 := ⟨_, rfl⟩
  have hz := heap_alloc_new w (.cells #[Value.pointer none, Value.int .i64 0, Value.int .i64 0, Value.pointer none, Value.pointer none, Value.pointer none, Value.pointer none, Value.pointer none, Value.pointer none, Value.pointer none, Value.pointer none, Value.pointer none, Value.pointer none, Value.pointer none, Value.pointer none, Value.pointer none, Value.pointer none, Value.pointer none, Value.pointer none] 59)
  have kz : Keep w w1 := by rw [← hw1]; exact (Keep.refl w).alloc _ _
  rw [hw1] at hz
  have hc : w1.cell? ⟨w.heap.size, 0, none⟩ = some (.pointer none) := cell_of_row _ _ _ _ _ _ hz
  have HZ : Hid (∀ w0 w' : World, Keep w1 w0 → Keep w0 w' → Calls Try.prog 43 #[.pointer (some ⟨w.heap.size, 0, none⟩)] w' fun e w'' => e = .returned (.bool false) ∧ w'' = w') := fun w0 w' k k' => rmade_zero ((Turned.of_keep (F := fun _ => False) (k.trans k')).cell hc fun e => e)
  have KZ := Lib.hid kz
  clear hz kz hc
  go_enter Try.func6, Try.ntmps6
  go_wp2_with fail
  refine (rl_take_nil 0 0 0 0 0 none none (HN.out _)).mono ?_
  rintro e w2 ⟨rfl, k2⟩
  have Z2 := Lib.hid k2
  clear k2
  go_wp2_with fail
  refine (rl_send_nil 0 0 0 0 none (HZ.out _ · Z2.out ·)).mono ?_
  rintro e w3 ⟨A3, n3, c3, A4, n4, c4, rfl, -, -, k3⟩
  obtain ⟨w4, hw4⟩ : ∃ w4, w3.alloc (.cells #[.slice A3 n3 c3, .slice A4 n4 c4] 35) = w4 := ⟨_, rfl⟩
  have k4 : Keep w3 w4 := by rw [← hw4]; exact (Keep.refl w3).alloc _ _
  have Z4 := Lib.hid (Z2.out.trans (k3.trans k4))
  clear k3 k4 Z2
  go_wp2_with fail
  refine (rl_solve_nil 0 (HN.out _)).mono ?_
  rintro e w5 ⟨rfl, rfl⟩
  go_wp2_with fail
  refine (relnew_out 0 1 1 (by decide) _).mono ?_
  rintro e w6 ⟨rfl, k1⟩
  have Z6 := Lib.hid (Z4.out.trans k1)
  clear k1 Z4
  go_wp2_with fail
  refine (relnew_out 1 0 1 (by decide) w6).mono ?_
  rintro e w7 ⟨rfl, k1⟩
  have Z7 := Lib.hid (Z6.out.trans k1)
  clear k1 Z6
  go_wp2_with fail
  refine (relnew_out 1 1 17 (by decide) w7).mono ?_
  rintro e w8 ⟨rfl, k1⟩
  have Z8 := Lib.hid (Z7.out.trans k1)
  clear k1 Z7
  go_wp2_with fail
  refine (relnew_out 256 1 1 (by decide) w8).mono ?_
  rintro e w9 ⟨rfl, k1⟩
  have Z9 := Lib.hid (Z8.out.trans k1)
  clear k1 Z8
  go_wp2_with fail
  refine (rclear_nil _ _ (HN.out _ _ (Keep.refl _))).mono ?_
  rintro e w10 ⟨rfl, rfl⟩
  go_wp2_with fail
  refine (rclear_nil _ _ (HZ.out _ _ Z9.out (Keep.refl _))).mono ?_
  rintro e w10 ⟨rfl, rfl⟩
  go_wp2_with fail
  refine (rl_move_nil _ _ 1 (HZ.out _ _ Z9.out (Keep.refl _))).mono ?_
  rintro e w10 ⟨rfl, rfl⟩
  go_wp2_with fail
  refine (rl_rank_nil 0 (HN.out _)).mono ?_
  rintro e w10 ⟨rfl, rfl⟩
  go_wp2_with fail
  refine (rl_rank_nil 0 (HZ.out _ · Z9.out ·)).mono ?_
  rintro e w10 ⟨rfl, rfl⟩
  go_wp2_with fail
  refine (rl_ranks_nil _ _ (HZ.out _ _ Z9.out (Keep.refl _))).mono ?_
  rintro e w10 ⟨rfl, rfl⟩
  go_wp2_with fail
  refine (rl_rows_nil 0 (HN.out _)).mono ?_
  rintro e w10 ⟨rfl, rfl⟩
  go_wp2_with fail
  refine (rl_in_nil _ _ 0 (HN.out _ _ (Keep.refl _))).mono ?_
  rintro e w10 ⟨rfl, rfl⟩
  go_wp2_with fail
  refine (rl_base_nil _ _ (HZ.out _ _ Z9.out (Keep.refl _))).mono ?_
  rintro e w10 ⟨rfl, rfl⟩
  go_wp2_with fail
  refine (rl_copy_nil _ _ (HN.out _ _ (Keep.refl _))).mono ?_
  rintro e w10 ⟨rfl, rfl⟩
  go_wp2_with fail
  refine (relnew_in (g := 2) (s := 1) (k := 2) (by decide) (by decide) (by decide) (by decide) (by decide) (by decide) _).mono ?_
  rintro e w11 ⟨p, F1, rfl, r1, f1, k1⟩
  have R1 := Lib.hid r1
  have F1' := Lib.hid f1
  have K1 := Lib.hid ((KZ.out.trans Z9.out).trans k1)
  have HF : Hid (∀ q, F1 q → w.heap.size ≤ q) := fun q hq => Nat.le_trans (KZ.out.trans Z9.out).size (f1 q hq)
  clear r1 f1 k1 F1' HN HZ KZ Z9
  go_wp2_with fail
  have tk : ∀ w0 : World, ∃ w2, (w0.alloc (.cells #[.int .u8 1] 5)).alloc (.cells #[.int .u8 1] 5) = w2 ∧ Keep w0 w2 := fun w0 => ⟨_, rfl, ((Keep.refl w0).alloc _ _).alloc _ _⟩
  obtain ⟨w12, e12, k12⟩ := tk w11
  rw [e12]
  clear tk
  refine (rl_take_dim (R1.out.keep k12) 0 (by decide) (by decide) _ _ _ _ _ _ (Or.inl (by decide))).mono ?_
  rintro e w13 ⟨rfl, k13⟩
  have R13 := Lib.hid (R1.out.keep (k12.trans k13))
  have K13 := Lib.hid (K1.out.trans (k12.trans k13))
  clear k12 k13 R1 K1 e12
  go_wp2_with fail
  refine (rl_take_out R13.out 2 (by decide) (by decide) _ _ _ _ _ _).mono ?_
  rintro e w14 ⟨rfl, k14⟩
  have R14 := Lib.hid (R13.out.keep k14)
  have K14 := Lib.hid (K13.out.trans k14)
  clear k14 R13 K13
  go_wp2_with fail
  refine (rl_solve_low R14.out 0 (by decide) (by decide) (by decide)).mono ?_
  rintro e w15 ⟨rfl, k15⟩
  have R15 := Lib.hid (R14.out.keep k15)
  have K15 := Lib.hid (K14.out.trans k15)
  clear k15 R14 K14
  go_wp2_with fail
  refine (rl_move_out R15.out 1099511627777 (by decide)).mono ?_
  rintro e w16 ⟨rfl, k16⟩
  have R16 := Lib.hid (R15.out.keep k16)
  have K16 := Lib.hid (K15.out.trans k16)
  clear k16 R15 K15
  go_wp2_with fail
  refine (rl_move_in R16.out 1099511627776 (by decide)).mono ?_
  rintro e w17 ⟨rfl, F2, r17, f17, t17⟩
  have R17 := Lib.hid r17
  have K17 := Lib.hid (t17.keep K16.out HF.out)
  clear r17 f17 t17 R16 K16 HF
  go_wp2_with fail
  obtain ⟨wl18, hwl⟩ : ∃ wl, w17.alloc (.cells #[.int .u8 1, .int .u8 1] 5) = wl := ⟨_, rfl⟩
  have HL18 := Lib.hid (two_lit w17 1 1 (by decide) (by decide) hwl)
  rw [hwl]
  clear hwl
  refine (row_any 2 2 1 _ _ (by decide)).mono ?_
  rintro e w18 ⟨A18, c18, rfl, o18, l18, k18⟩
  have HB18 := Lib.hid (And.intro (HL18.out.1.keep (Nat.le_refl _) k18) (And.intro o18.bytes (And.intro k18.size l18)))
  have HK18 := Lib.hid (HL18.out.2.trans k18)
  clear o18 l18 k18 HL18
  go_wp2_with fail
  refine (rl_take_out (R17.out.keep HK18.out) 1099511627776 (by decide) (by decide) _ _ _ _ _ _).mono ?_
  rintro e w19 ⟨rfl, k19⟩
  have K19 := Lib.hid (K17.out.trans (HK18.out.trans k19))
  clear k19 R17 K17 HB18 HK18
  go_wp2_with fail
  refine (wakes_any _).mono ?_
  rintro e w20 ⟨rfl, k20⟩
  have K20 := Lib.hid (K19.out.trans k20)
  clear k20
  go_wp2_with fail
  go_ret
  exact ⟨rfl, K20.out⟩
end Go.Proofs.Ytcjjhblgejkkeaa
