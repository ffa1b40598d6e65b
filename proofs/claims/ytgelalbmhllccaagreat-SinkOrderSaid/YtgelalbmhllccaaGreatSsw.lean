/- What the chapter's examples say: layer 15's statements ask it first. -/
import Derived.Test.YtgelalbmhllccaaGreatQao
import Derived.Test.YtgelalbmhllccaaGreatQaj
import Derived.Test.YtgelalbmhllccaaGreatQap
import Derived.Lib.SlBytesConst
namespace Go.Proofs.YtgelalbmhllccaaGreat
open Go.RowKit Lin
set_option linter.unusedVariables false
set_option linter.unusedSimpArgs false
def swL1 : Nat → List (List Nat) := upd (fun _ => []) 0 [[1, 0, 0, 0, 0]]
def swL2 : Nat → List (List Nat) := upd swL1 0 [[1, 0, 0, 0, 0], [0, 1, 1, 97, 0]]
def swL3 : Nat → List (List Nat) := upd swL2 1 [[1, 0, 0, 0, 0]]
theorem sw_ins : insB 2 3 [] [1, 0, 0, 0, 0] = [[1, 0, 0, 0, 0]] ∧ insB 2 3 [[1, 0, 0, 0, 0]] [0, 1, 1, 97, 0] = [[1, 0, 0, 0, 0], [0, 1, 1, 97, 0]] := by decide +kernel
theorem sw_l1 : yTakeL 2 3 4 0 (fun _ => []) 0 2 3 ([1, 0] ++ [0, 0, 0]) = swL1 := by
  rw [yTakeL, if_pos (by decide +kernel)]
  show upd _ 0 (insB 2 3 [] [1, 0, 0, 0, 0]) = _
  rw [sw_ins.1]; rfl
theorem sw_l2 : yTakeL 2 3 4 0 swL1 0 2 3 ([0, 1] ++ [1, 97, 0]) = swL2 := by
  rw [yTakeL, if_pos (by decide +kernel)]
  show upd _ 0 (insB 2 3 [[1, 0, 0, 0, 0]] [0, 1, 1, 97, 0]) = _
  rw [sw_ins.2]; rfl
theorem sw_l3 : yTakeL 2 3 4 0 swL2 1 2 3 ([1, 0] ++ [0, 0, 0]) = swL3 := by
  rw [yTakeL, if_pos (by decide +kernel)]
  show upd _ 1 (insB 2 3 [] [1, 0, 0, 0, 0]) = _
  rw [sw_ins.1]; rfl
theorem sw_rel1 : RelT 2 3 4 0 swL3 0 [[97]] 1 false := ⟨rfl, fun i hi => by
  obtain rfl : i = 0 := by simp at hi; omega
  exact ⟨by decide +kernel, by decide +kernel, by decide +kernel⟩, fun e => (by cases e), fun _ => by decide +kernel⟩
theorem sw_rel2 : RelT 2 3 4 0 swL3 1 [] 1 false := ⟨rfl, fun i hi => by simp at hi, fun e => (by cases e), fun _ => by decide +kernel⟩
theorem two_three (w : World) (x y a b c : Nat) (h : ∀ z ∈ [x, y, a, b, c], z < 256) {w1 w2 : World} (h1 : w.alloc (.cells #[.int .u8 (x : Int), .int .u8 (y : Int)] 5) = w1) (h2 : w1.alloc (.cells #[.int .u8 (a : Int), .int .u8 (b : Int), .int .u8 (c : Int)] 5) = w2) :
    Bytes w2 w2.heap.size (some ⟨w.heap.size, 0, none⟩) 2 [x, y] ∧ Bytes w2 w2.heap.size (some ⟨w.heap.size + 1, 0, none⟩) 3 [a, b, c] ∧ Keep w w2 := by
  have o1 := Own.lit w 5 2 [x, y] #[.int .u8 (x : Int), .int .u8 (y : Int)] rfl rfl (by decide) (fun z hz => h z (by simp at hz ⊢; omega))
  have o2 := Own.lit w1 5 3 [a, b, c] #[.int .u8 (a : Int), .int .u8 (b : Int), .int .u8 (c : Int)] rfl rfl (by decide) (fun z hz => h z (by simp at hz ⊢; omega))
  rw [h1] at o1
  rw [h2] at o2
  have k1 : Keep w w1 := by rw [← h1]; exact (Keep.refl w).alloc _ _
  have k2 : Keep w1 w2 := by rw [← h2]; exact (Keep.refl w1).alloc _ _
  have s1 : w1.heap.size = w.heap.size + 1 := by rw [← h1]; simp
  rw [s1] at o2
  exact ⟨o1.bytes.keep (Nat.le_refl _) k2 |>.mono k2.size, o2.bytes, k1.trans k2⟩
theorem keep_obj {W w : World} (h : Keep W w) (o : Obj) : Keep W (w.alloc o) := Below.alloc h (Below.size h) o
theorem lies_block {w : World} {b n : Nat} {cs : Array Value} {t : TypeId} {fr : Nat × Nat} {xs : List Nat} (h : w.heap[b]? = some (.cells cs t fr)) (hc : cs = (u8s xs).toArray) (hl : xs.length = n) (hx : AllB xs) (F : Nat → Prop) (hF : F b) : LiesIn w F ⟨some ⟨b, 0, none⟩, n, n, xs⟩ := by
  refine ⟨hl, hx, Nat.le_refl _, fun _ => ⟨b, 0, rfl, hF, fun i hi => ?_⟩⟩
  have hi : i < n := hi
  rw [Nat.zero_add]
  unfold World.cell?
  rw [h, hc]
  show (u8s xs).toArray[i]? = _
  rw [List.getElem?_toArray, u8s_get, List.getElem?_eq_getElem (by omega)]
  simp [List.getD_eq_getElem?_getD, List.getElem?_eq_getElem (show i < xs.length by omega)]
theorem rows_lit1 (w : World) (t : TypeId) (r : RowV) : OwnRows (w.alloc (.cells #[r.val] t)) w.heap.size t (some ⟨w.heap.size, 0, none⟩) 1 1 [r] :=
  ⟨rfl, Or.inr ⟨w.heap.size, 1, #[r.val], rfl, Nat.le_refl _, heap_alloc_new _ _, Nat.le_refl _, by decide, rfl, rfl⟩⟩
set_option maxRecDepth 100000 in
set_option maxHeartbeats 4000000 in
theorem sink_awake (w : World) : Calls Tryz.prog 5 #[] w fun e w' => e = .returned (.bool true) ∧ Keep w w' := by
  go_enter Tryz.func5, Tryz.ntmps5
  go_wp2_with fail
  refine (relnew_in (g := 2) (s := 3) (k := 4) (by decide) (by decide) (by decide) (by decide) (by decide) (by decide) _).mono ?_
  rintro e w1 ⟨p, F1, rfl, r1, f1, k1⟩
  have R0 := Lib.hid r1
  have G0 := Lib.hid f1
  have K0 := Lib.hid k1
  clear r1 f1 k1
  go_wp2_with fail
  obtain ⟨wa1, hwa⟩ : ∃ v, w1.alloc (.cells #[.int .u8 1, .int .u8 0] 5) = v := ⟨_, rfl⟩
  obtain ⟨wb1, hwb⟩ : ∃ v, wa1.alloc (.cells #[.int .u8 0, .int .u8 0, .int .u8 0] 5) = v := ⟨_, rfl⟩
  have HL1 := Lib.hid (two_three w1 1 0 0 0 0 (by decide) hwa hwb)
  rw [hwa, hwb]
  clear hwa hwb
  have ht := rl_take_all (R0.out.keep HL1.out.2.2) 0 (by decide) _ _ 2 3 2 3 _ _ [1, 0] [0, 0, 0] (Nat.le_refl _) (Nat.le_refl _) HL1.out.1 HL1.out.2.1 (Nat.le_refl _) (Nat.le_refl _)
  rw [sw_l1] at ht
  refine ht.mono ?_
  clear ht
  rintro e v1 ⟨rfl, H1, r1, f1, t1⟩
  have R1 := Lib.hid r1
  have G1 : Hid (∀ x, H1 x → w.heap.size ≤ x) := fun x hx => by
    rcases f1 x hx with e | e
    · exact G0.out x e
    · have := K0.out.size; have := HL1.out.2.2.size; omega
  have K1 := Lib.hid (t1.keep (K0.out.trans HL1.out.2.2) G0.out)
  clear r1 f1 t1 R0 G0 K0 HL1
  go_wp2_with fail
  obtain ⟨wa2, hwa⟩ : ∃ v, v1.alloc (.cells #[.int .u8 0, .int .u8 1] 5) = v := ⟨_, rfl⟩
  obtain ⟨wb2, hwb⟩ : ∃ v, wa2.alloc (.cells #[.int .u8 1, .int .u8 97, .int .u8 0] 5) = v := ⟨_, rfl⟩
  have HL2 := Lib.hid (two_three v1 0 1 1 97 0 (by decide) hwa hwb)
  rw [hwa, hwb]
  clear hwa hwb
  have ht := rl_take_all (R1.out.keep HL2.out.2.2) 0 (by decide) _ _ 2 3 2 3 _ _ [0, 1] [1, 97, 0] (Nat.le_refl _) (Nat.le_refl _) HL2.out.1 HL2.out.2.1 (Nat.le_refl _) (Nat.le_refl _)
  rw [sw_l2] at ht
  refine ht.mono ?_
  clear ht
  rintro e v2 ⟨rfl, H2, r2, f2, t2⟩
  have R2 := Lib.hid r2
  have G2 : Hid (∀ x, H2 x → w.heap.size ≤ x) := fun x hx => by
    rcases f2 x hx with e | e
    · exact G1.out x e
    · have := K1.out.size; have := HL2.out.2.2.size; omega
  have K2 := Lib.hid (t2.keep (K1.out.trans HL2.out.2.2) G1.out)
  clear r2 f2 t2 R1 G1 K1 HL2
  go_wp2_with fail
  obtain ⟨wa3, hwa⟩ : ∃ v, v2.alloc (.cells #[.int .u8 1, .int .u8 0] 5) = v := ⟨_, rfl⟩
  obtain ⟨wb3, hwb⟩ : ∃ v, wa3.alloc (.cells #[.int .u8 0, .int .u8 0, .int .u8 0] 5) = v := ⟨_, rfl⟩
  have HL3 := Lib.hid (two_three v2 1 0 0 0 0 (by decide) hwa hwb)
  rw [hwa, hwb]
  clear hwa hwb
  have ht := rl_take_all (R2.out.keep HL3.out.2.2) 1 (by decide) _ _ 2 3 2 3 _ _ [1, 0] [0, 0, 0] (Nat.le_refl _) (Nat.le_refl _) HL3.out.1 HL3.out.2.1 (Nat.le_refl _) (Nat.le_refl _)
  rw [sw_l3] at ht
  refine ht.mono ?_
  clear ht
  rintro e v3 ⟨rfl, H3, r3, f3, t3⟩
  have R3 := Lib.hid r3
  have G3 : Hid (∀ x, H3 x → w.heap.size ≤ x) := fun x hx => by
    rcases f3 x hx with e | e
    · exact G2.out x e
    · have := K2.out.size; have := HL3.out.2.2.size; omega
  have K3 := Lib.hid (t3.keep (K2.out.trans HL3.out.2.2) G2.out)
  clear r3 f3 t3 R2 G2 K2 HL3
  go_wp2_with fail
  refine (lsnew_in 2 3 0 (by decide) (by decide) v3).mono ?_
  rintro e v4 ⟨rfl, s4, k4⟩
  have hq : ¬ H3 v3.heap.size := fun e => by have := R3.out.lt _ e; omega
  have HS4 := Lib.hid (And.intro s4 (And.intro hq (R3.out.keep k4)))
  have K4 := Lib.hid (K3.out.trans k4)
  have Z4 : Hid (w.heap.size ≤ v3.heap.size) := K3.out.size
  obtain ⟨q, hqn⟩ : ∃ v, v3.heap.size = v := ⟨_, rfl⟩
  simp only [hqn] at HS4 Z4 ⊢
  clear s4 k4 hq R3 K3 hqn
  go_wp2_with fail
  refine (krel_in (g := 2) (s := 3) HS4.out.1 HS4.out.2.2 HS4.out.2.1).mono ?_
  rintro e v5 ⟨A5, n5, c5, rs5, m5, br5, rfl, rt5, o5, l5, s5, y5, t5⟩
  obtain ⟨e1, rfl, rfl⟩ := rt5.only sw_rel1
  have n5e : n5 = 1 := by have h := o5.length; rw [← rowsXs_len, e1] at h; exact h.symm
  subst n5e
  have K5 := Lib.hid (t5.keep K4.out fun x e => by have := Z4.out; omega)
  have HO5 := Lib.hid (And.intro o5 (And.intro l5 (And.intro s5 (And.intro y5 (And.intro e1 t5.size)))))
  clear o5 l5 s5 y5 t5 rt5 e1
  go_wp2_with fail
  refine (krel_in (g := 2) (s := 3) HO5.out.2.2.1 HO5.out.2.2.2.1 HS4.out.2.1).mono ?_
  rintro e v6 ⟨A6, n6, c6, rs6, m6, br6, rfl, rt6, o6, l6, s6, y6, t6⟩
  obtain ⟨e1, rfl, rfl⟩ := rt6.only sw_rel2
  have n6e : n6 = 0 := by have h := o6.length; rw [← rowsXs_len, e1] at h; exact h.symm
  subst n6e
  have K6 := Lib.hid (t6.keep K5.out fun x e => by have := Z4.out; omega)
  have hA5 : RowsIn v6 (fun x => x < v6.heap.size) A5 1 rs5 := by
    have hne : ∀ x, v4.heap.size ≤ x → ¬ x = q := fun x h e => by have := HS4.out.1.lt; omega
    refine RowsIn.of_own (OwnRows.turned HO5.out.1 t6 fun x e => hne x (ownblock_cells HO5.out.1 e).1) (fun r hr => ((HO5.out.2.1 r hr).turned t6 fun x e => hne x (ownblock_cells (HO5.out.2.1 r hr).1 e).1).lies.mono fun x e => ?_) fun x e => Nat.lt_of_lt_of_le (HO5.out.1.lt x e).2 t6.size
    exact Nat.lt_of_lt_of_le ((HO5.out.2.1 r hr).1.lt x e).2 t6.size
  have HA5 := Lib.hid (And.intro hA5 HO5.out.2.2.2.2.1)
  have HS6 := Lib.hid s6
  clear o6 l6 s6 y6 t6 rt6 e1 hA5 HO5 HS4 K5 K4
  have kc := fun (w : World) (C : Array Value) (n c : Nat) => Lib.run_convert_bytes_const (P := Tryz.prog) w 43 5 C n c Tryz.underlying43 Tryz.underlying5
  obtain ⟨wa, hwa⟩ : ∃ v, v6.alloc (.cells #[.int .u8 97] 5 (1, 2)) = v := ⟨_, rfl⟩
  have bA : wa.heap[v6.heap.size]? = some (.cells #[.int .u8 97] 5 (1, 2)) := by rw [← hwa]; exact heap_alloc_new v6 _
  have ka : Keep v6 wa := by rw [← hwa]; exact keep_obj (Keep.refl v6) _
  have sa : wa.heap.size = v6.heap.size + 1 := by rw [← hwa]; simp
  obtain ⟨wb, hwb⟩ : ∃ v, wa.alloc (.cells #[.slice (some ⟨v6.heap.size, 0, none⟩) 1 1] 43) = v := ⟨_, rfl⟩
  have oR := rows_lit1 wa 43 ⟨some ⟨v6.heap.size, 0, none⟩, 1, 1, [97]⟩
  have kb : Keep wa wb := by rw [← hwb]; exact (Keep.refl wa).alloc _ _
  change OwnRows (wa.alloc (.cells #[.slice (some ⟨v6.heap.size, 0, none⟩) 1 1] 43)) _ _ _ _ _ _ at oR
  rw [hwb] at oR
  have hB : RowsIn wb (fun x => x < wb.heap.size) (some ⟨wa.heap.size, 0, none⟩) 1 [⟨some ⟨v6.heap.size, 0, none⟩, 1, 1, [97]⟩] := RowsIn.of_own oR (fun r hr => by
    obtain rfl : r = ⟨some ⟨v6.heap.size, 0, none⟩, 1, 1, [97]⟩ := by simpa using hr
    exact lies_block (n := 1) (xs := [97]) ((kb.block _ (by omega)).trans bA) rfl rfl (by decide) _ (by show v6.heap.size < wb.heap.size; have := kb.size; omega)) fun x e => (oR.lt x e).2
  have hsame := rsame_any 1 1 c5 1 _ _ _ _ _ _ wb ((HA5.out.1.turned (Turned.of_keep (F := fun _ => False) (ka.trans kb)) fun _ _ e => e).mono fun x e => Nat.lt_of_lt_of_le e (ka.trans kb).size) hB (fun _ e => e) (fun _ e => e) (by decide)
  rw [HA5.out.2] at hsame
  have hdec : decide ([[97]] = rowsXs [(⟨some ⟨v6.heap.size, 0, none⟩, 1, 1, [97]⟩ : RowV)]) = true := by simp [rowsXs]
  rw [hdec, sa] at hsame
  have HSM := Lib.hid hsame
  have HD := Lib.hid (fun m => ldelivered_any ((HS6.out.keep (ka.trans kb)).drewN m))
  have K7 := Lib.hid (K6.out.trans (ka.trans kb))
  clear bA ka oR kb hB hsame hdec HA5 HS6 K6
  go_wp2_with fail
  refine HSM.out.mono ?_
  rintro e w7 ⟨rfl, m, rfl⟩
  go_wp2_with fail
  refine (HD.out m).mono ?_
  rintro e w8 ⟨rfl, rfl⟩
  go_wp2_with fail
  go_ret
  exact ⟨rfl, K7.out.drewN m⟩
end Go.Proofs.YtgelalbmhllccaaGreat
