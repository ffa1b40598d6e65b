/- The walk of CrcThree. -/
import Derived.Test.YthhfahljdbcpjaaDoorCwakes
import Derived.StillTailTactics
namespace Go.Proofs.YthhfahljdbcpjaaDoor
set_option linter.unusedVariables false
set_option linter.unusedSimpArgs false
open Go.RowKit Crc
theorem three_get : ∀ (ps bs cs : List Nat) (j : Nat), ps.length = bs.length → bs.length = cs.length → j < ps.length → (xor3 ps bs cs).getD j 0 = ps.getD j 0 ^^^ bs.getD j 0 ^^^ cs.getD j 0
  | a :: ps, b :: bs, c :: cs, 0, _, _, _ => rfl
  | a :: ps, b :: bs, c :: cs, j + 1, h1, h2, h3 => by
    have := three_get ps bs cs j (by simpa using h1) (by simpa using h2) (by simpa using h3)
    simpa [xor3] using this
  | [], _, _, j, _, _, h3 => by simp at h3
  | _ :: _, [], _, _, h1, _, _ => by simp at h1
  | _ :: _, _ :: _, [], _, _, h2, _ => by simp at h2
theorem three_length : ∀ (ps bs cs : List Nat), ps.length = bs.length → bs.length = cs.length → (xor3 ps bs cs).length = ps.length
  | [], _, _, _, _ => rfl
  | a :: ps, b :: bs, c :: cs, h1, h2 => by
    have := three_length ps bs cs (by simpa using h1) (by simpa using h2)
    simpa [xor3] using this
  | _ :: _, [], _, h1, _ => by simp at h1
  | _ :: _, _ :: _, [], _, h2 => by simp at h2
/-- A row that is filled, place by place. -/
def fillN (T : List Nat) (j : Nat) : List Nat := T.take j ++ List.replicate (T.length - j) 0
theorem fill_zero (T : List Nat) : fillN T 0 = List.replicate T.length 0 := by simp [fillN]
theorem fill_all (T : List Nat) (j : Nat) (h : T.length ≤ j) : fillN T j = T := by
  rw [fillN, List.take_of_length_le h, show T.length - j = 0 by omega]; simp
theorem fill_set (T : List Nat) (j : Nat) (h : j < T.length) : (fillN T j).set j (T.getD j 0) = fillN T (j + 1) := by
  have hl : (T.take j).length = j := by rw [List.length_take]; omega
  have e : T.length - j = (T.length - (j + 1)) + 1 := by omega
  rw [fillN, fillN, e, List.replicate_succ]
  have hs := List.set_append_right (T.getD j 0) (s := T.take j) (t := 0 :: List.replicate (T.length - (j + 1)) 0) (i := j) (by omega)
  rw [hs, hl, Nat.sub_self, List.set_cons_zero, List.take_add_one, List.getElem?_eq_getElem h, Option.toList_some, List.append_assoc, List.getD_eq_getElem?_getD, List.getElem?_eq_getElem h]
  rfl
set_option maxRecDepth 100000 in
set_option maxHeartbeats 4000000 in
theorem three_any (n1 n2 n3 d1 d2 d3 : Nat) (A1 A2 A3 : Option Addr) (xs ys zs : List Nat) (w : World) (hT : TabW w) (h1 : Bytes w w.heap.size A1 n1 xs) (h2 : Bytes w w.heap.size A2 n2 ys) (h3 : Bytes w w.heap.size A3 n3 zs)
    (m1 : n1 ≤ 140737488351232) (m2 : n2 ≤ 140737488351232) (m3 : n3 ≤ 140737488351232) (q1 : n1 ≤ d1) (q2 : n2 ≤ d2) (q3 : n3 ≤ d3) :
    Calls Tryd.prog 8 #[.slice A1 n1 d1, .slice A2 n2 d2, .slice A3 n3 d3] w fun e w' => e = .returned (.bool true) ∧ Keep w w' := by
  obtain ⟨m, hm⟩ : ∃ m, min (min n1 n2) n3 = m := ⟨_, rfl⟩
  have f1 : m ≤ n1 := by omega
  have f2 : m ≤ n2 := by omega
  have f3 : m ≤ n3 := by omega
  have hmin : ∀ w, (Builtin.min_ #[3, 3, 3] 3 #[.int .i64 (n1 : Int), .int .i64 (n2 : Int), .int .i64 (n3 : Int)]).run Tryd.prog w = .ok (.int .i64 (m : Int)) w := fun w => by
    rw [run_min_int3]; congr 2; split <;> split <;> omega
  have HT := Lib.hid hT
  have B1 := Lib.hid (h1.cut f1)
  have B2 := Lib.hid (h2.cut f2)
  have B3 := Lib.hid (h3.cut f3)
  have l1 := (h1.cut f1).length
  have l2 := (h2.cut f2).length
  have l3 := (h3.cut f3).length
  generalize xs.take m = X at *
  generalize ys.take m = Y at *
  generalize zs.take m = Z at *
  have hlen := three_length X Y Z (l1.trans l2.symm) (l2.trans l3.symm)
  have HG := Lib.hid (fun j hj => three_get X Y Z j (l1.trans l2.symm) (l2.trans l3.symm) hj)
  have HS := Lib.hid (sum_three X Y Z (l1.trans l2.symm) (l2.trans l3.symm))
  rw [l1] at hlen
  have HLEN := Lib.hid hlen
  have HL1 := Lib.hid l1
  generalize xor3 X Y Z = T at *
  have hmk : ∀ w, (Instr.makeSlice 22 (.int .i64 (m : Int)) (.int .i64 (m : Int))).run Tryd.prog w = .ok (.slice (some ⟨w.heap.size, 0, none⟩) m m) (w.alloc (.cells (madeCells #[.int .u8 0] m) 5)) := fun w => run_make_bytes (P := Tryd.prog) Tryd.underlying22 info5 m (by omega) w
  have O0 : Hid (Own (w.alloc (.cells (madeCells #[.int .u8 0] m) 5)) w.heap.size 5 (some ⟨w.heap.size, 0, none⟩) m m (fillN T 0)) := by
    show Own _ _ _ _ _ _ _
    rw [fill_zero, hlen]
    exact Own.made w 5 m (by omega)
  clear hT h1 h2 h3 hm l1 l2 l3 hlen
  go_enter Tryd.func8, Tryd.ntmps8
  go_wp2_with fail
  clear hmin hmk
  go_loopw [9] (fun i wr => ∃ j : Nat, j ≤ m ∧ i = .int .i64 j ∧ Own wr w.heap.size 5 (some ⟨w.heap.size, 0, none⟩) m m (fillN T j) ∧ Keep w wr) (fun i _ => m - (intOf i).toNat)
  case atStart => exact ⟨0, by omega, rfl, O0.out, (Keep.refl w).alloc _ _⟩
  case round =>
    clear O0
    obtain ⟨j, hj, rfl, hown, hkeep⟩ := hrel
    by_cases hlt : j < m
    · obtain ⟨a1, o1, rfl, hb1, hc1⟩ := (B1.out.keep (Nat.le_refl _) hkeep).at_ hlt
      obtain ⟨a2, o2, rfl, hb2, hc2⟩ := (B2.out.keep (Nat.le_refl _) hkeep).at_ hlt
      obtain ⟨a3, o3, rfl, hb3, hc3⟩ := (B3.out.keep (Nat.le_refl _) hkeep).at_ hlt
      have x1 := B1.out.all.getD j
      have x2 := B2.out.all.getD j
      have x3 := B3.out.all.getD j
      have hg := HG.out j (by rw [HL1.out]; exact hlt)
      have hc := hown.cell hlt
      have hf := hown.frozen j
      have hset := fill_set T j (by rw [HLEN.out]; exact hlt)
      rw [hg] at hset
      generalize X.getD j 0 = x at *
      generalize Y.getD j 0 = y at *
      generalize Z.getD j 0 = z at *
      obtain ⟨u, hu⟩ : ∃ u, x ^^^ y = u := ⟨_, rfl⟩
      obtain ⟨v, hv⟩ : ∃ v, u ^^^ z = v := ⟨_, rfl⟩
      have hu2 : u < 256 := by rw [← hu]; exact Nat.xor_lt_two_pow (n := 8) x1 x2
      have hv2 : v < 256 := by rw [← hv]; exact Nat.xor_lt_two_pow (n := 8) hu2 x3
      have b1 : bits .xor .u8 (x : Int) (y : Int) = (u : Int) := by rw [← hu]; exact u8_xor_nat x y x1 x2
      have b2 : bits .xor .u8 (u : Int) (z : Int) = (v : Int) := by rw [← hv]; exact u8_xor_nat u z hu2 x3
      rw [hu, hv] at hset
      have HO : Hid (Own (wr.setCell ⟨w.heap.size, j, none⟩ (.int .u8 (v : Int))) w.heap.size 5 (some ⟨w.heap.size, 0, none⟩) m m (fillN T (j + 1))) := by
        show Own _ _ _ _ _ _ _
        rw [← hset]; exact hown.stored hv2
      have HK := Lib.hid (hkeep.setCell (a := ⟨w.heap.size, j, none⟩) (Nat.le_refl _) (.int .u8 (v : Int)))
      have e1 : (0 : Int) ≤ (j : Int) := Int.natCast_nonneg _
      have e2 : (j : Int) < (m : Int) := by omega
      have e3 : (j : Int) < (n1 : Int) := by omega
      have e4 : (j : Int) < (n2 : Int) := by omega
      have e5 : (j : Int) < (n3 : Int) := by omega
      generalize (fillN T j).getD j 0 = old at *
      clear hown hkeep hg hset hu hv
      go_wp2_with fail
      refine wp_region_still_tail (w := wr) 17 (by kernel_rfl) (by kernel_rfl) ?_
      simp only [List.take_succ_cons, List.take_zero, List.drop_succ_cons, List.drop_zero]
      change wpStill _ _ (World.drew wr) _ _ _
      repeat still_step
      refine wpStill_nil ?_
      change wpList _ _ _ _ _ (World.drew wr)
      go_wp2_with fail
      go_roundw
      case rel => exact ⟨j + 1, by omega, by go_num, HO.out.drew, HK.out.drew⟩
      case measure => simp [intOf]; omega
    · obtain rfl : j = m := by omega
      rw [fill_all T j (by rw [HLEN.out]; exact Nat.le_refl _)] at hown
      have D : Keep w wr.drew := hkeep.drew
      have TD := Lib.hid (HT.out.keep D)
      have BD1 := Lib.hid (B1.out.keep (Nat.le_refl _) D)
      have BD2 := Lib.hid (B2.out.keep (Nat.le_refl _) D)
      have BD3 := Lib.hid (B3.out.keep (Nat.le_refl _) D)
      have OD := Lib.hid hown.drew.bytes
      have KD := Lib.hid D
      have s1 := sum_lt B1.out.all
      have s2 := sum_lt B2.out.all
      have s3 := sum_lt B3.out.all
      have HV := HS.out
      obtain ⟨a, ha⟩ : ∃ a, sumN X = a := ⟨_, rfl⟩
      obtain ⟨b, hb⟩ : ∃ b, sumN Y = b := ⟨_, rfl⟩
      obtain ⟨c, hc⟩ : ∃ c, sumN Z = c := ⟨_, rfl⟩
      obtain ⟨t, ht⟩ : ∃ t, sumN T = t := ⟨_, rfl⟩
      rw [ha, hb, hc, ht] at HV
      rw [ha] at s1
      rw [hb] at s2
      rw [hc] at s3
      obtain ⟨u, hu⟩ : ∃ u, a ^^^ b = u := ⟨_, rfl⟩
      have hu2 : u < 4294967296 := by rw [← hu]; exact Nat.xor_lt_two_pow (n := 32) s1 s2
      have x1 : bits .xor .u32 (a : Int) (b : Int) = (u : Int) := by rw [← hu]; exact xor32 a b s1 s2
      have x2 : bits .xor .u32 (u : Int) (c : Int) = (t : Int) := by rw [HV, hu]; exact xor32 u c hu2 s3
      have bt : ((t : Int) == (t : Int)) = true := beq_iff_eq.2 rfl
      have e0 : (0 : Int) ≤ (j : Int) := Int.natCast_nonneg _
      have e3 : (j : Int) ≤ (d1 : Int) := by omega
      have e4 : (j : Int) ≤ (d2 : Int) := by omega
      have e5 : (j : Int) ≤ (d3 : Int) := by omega
      have g1 : (j : Int) ≤ (n1 : Int) := by omega
      have g2 : (j : Int) ≤ (n2 : Int) := by omega
      have g3 : (j : Int) ≤ (n3 : Int) := by omega
      have C0 := Lib.hid ((csum_any _ j j _ T _ TD.out OD.out (by omega)).mono fun e w' h => (⟨by rw [← ht]; exact h.1, h.2.symm⟩ : e = .returned (.int .u32 (t : Int)) ∧ w' = wr.drew))
      have C1 := Lib.hid ((csum_any _ j d1 _ X _ TD.out BD1.out (by omega)).mono fun e w' h => (⟨by rw [← ha]; exact h.1, h.2.symm⟩ : e = .returned (.int .u32 (a : Int)) ∧ w' = wr.drew))
      have C2 := Lib.hid ((csum_any _ j d2 _ Y _ TD.out BD2.out (by omega)).mono fun e w' h => (⟨by rw [← hb]; exact h.1, h.2.symm⟩ : e = .returned (.int .u32 (b : Int)) ∧ w' = wr.drew))
      have C3 := Lib.hid ((csum_any _ j d3 _ Z _ TD.out BD3.out (by omega)).mono fun e w' h => (⟨by rw [← hc]; exact h.1, h.2.symm⟩ : e = .returned (.int .u32 (c : Int)) ∧ w' = wr.drew))
      clear hown hkeep D HV ha hb hc ht hu
      go_wp2_with fail
      refine wp_region_still_tail (w := wr) 18 (by kernel_rfl) (by kernel_rfl) ?_
      simp only [List.take_succ_cons, List.take_zero, List.drop_succ_cons, List.drop_zero]
      change wpStill _ _ (World.drew wr) _ _ _
      still_step
      still_call C0.out
      iterate 3 still_step
      still_call C1.out
      iterate 3 still_step
      still_call C2.out
      iterate 4 still_step
      still_call C3.out
      iterate 3 still_step
      refine wpStill_nil ?_
      change wpList _ _ _ _ _ (World.drew wr)
      go_wp2_with fail
      refine (wakes_any _ TD.out).mono ?_
      rintro e w2 ⟨rfl, k2⟩
      have K2 := Lib.hid (KD.out.trans k2)
      clear k2
      go_wp2_with fail
      go_ret
      exact ⟨rfl, K2.out⟩
end Go.Proofs.YthhfahljdbcpjaaDoor
