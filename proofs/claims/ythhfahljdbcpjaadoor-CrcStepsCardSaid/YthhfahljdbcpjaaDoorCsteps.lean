/- The walk of CrcSteps. -/
import Derived.Test.YthhfahljdbcpjaaDoorCwakes
import Derived.Test.YthhfahljdbcpjaaDoorCparts
import Derived.Outline
namespace Go.Proofs.YthhfahljdbcpjaaDoor
open Go.RowKit Crc
theorem Bytes.one_at {w : World} {B n k b off : Nat} {xs : List Nat} (h : Bytes w B (some ⟨b, off, none⟩) n xs) (hk : k < n) : Bytes w B (some ⟨b, off + k, none⟩) 1 [xs.getD k 0] := by
  refine ⟨rfl, fun x hx => ?_, fun _ => ?_⟩
  · simp only [List.mem_cons, List.not_mem_nil, or_false] at hx
    subst hx
    exact h.all.getD k
  · obtain ⟨b', off', e, hb, hc⟩ := h.at_ hk
    injection e with e
    injection e with e1 e2
    subst e1 e2
    exact ⟨b, off + k, rfl, hb, fun i hi => by
      obtain rfl : i = 0 := by omega
      exact hc⟩
set_option maxRecDepth 100000 in
set_option maxHeartbeats 4000000 in
theorem steps_any (n c y : Nat) (A : Option Addr) (xs : List Nat) (w : World) (hT : TabW w) (h : Bytes w w.heap.size A n xs) (hn : n ≤ 140737488351232) (hc : n ≤ c) (hy : y < 256) :
    Calls Tryd.prog 9 #[.slice A n c, .int .u8 (y : Int)] w fun e w' => e = .returned (.bool true) ∧ Keep w w' := by
  obtain ⟨k, hk⟩ : ∃ k, min n 200 = k := ⟨_, rfl⟩
  have hmin : ∀ w, (Builtin.min_ #[3, 3] 3 #[.int .i64 (n : Int), .int .i64 200]).run Tryd.prog w = .ok (.int .i64 (k : Int)) w := fun w => by
    rw [run_min_int2]; congr 2; split <;> omega
  have f1 : k ≤ n := by omega
  have f2 : k ≤ 200 := by omega
  have HT := Lib.hid hT
  have HB := Lib.hid (h.cut f1)
  have hl := (h.cut f1).length
  generalize xs.take k = X at *
  have HL := Lib.hid hl
  obtain ⟨z, hz⟩ : ∃ z, y % 41 = z := ⟨_, rfl⟩
  have z1 : (y : Int) % 41 = (z : Int) := by omega
  have z2 : z < 41 := by omega
  have e1 : (0 : Int) ≤ (k : Int) := Int.natCast_nonneg _
  have e2 : (k : Int) ≤ (n : Int) := by omega
  have e3 : (k : Int) ≤ (c : Int) := by omega
  clear hT h hk hl hz
  go_enter Tryd.func9, Tryd.ntmps9
  go_wp2_with fail
  clear hmin
  refine (csum_any 0 0 0 none [] _ HT.out (Bytes.nil _ _ _) (by decide)).mono ?_
  rw [sum_nil]
  rintro e wx ⟨rfl, rfl⟩
  go_wp2_with fail
  go_loop [5, 6] (fun t i => ∃ j : Nat, j ≤ k ∧ i = .int .i64 j ∧ t = .int .u32 (sumN (X.take j) : Nat)) (fun _ i => k - (intOf i).toNat)
  case atStart => exact ⟨0, by omega, rfl, by rw [List.take_zero, sum_nil]; rfl⟩
  case round =>
    obtain ⟨j, hj, rfl, rfl⟩ := hrel
    have hs := sum_lt (HB.out.all.take j)
    by_cases hlt : j < k
    · obtain ⟨b, off, rfl, hb, hc1⟩ := HB.out.at_ hlt
      have HX := Lib.hid (HB.out.one_at hlt)
      have HJ := Lib.hid (HB.out.cut (m := j + 1) (by omega))
      have hs1 := sum_lt (HB.out.one_at hlt).all
      have hap : sumN (X.take (j + 1)) = meetN (sumN (X.take j)) (sumN [X.getD j 0]) 1 := by
        have hlj : j < X.length := by rw [HL.out]; exact hlt
        rw [List.take_add_one, List.getElem?_eq_getElem hlj, Option.toList_some, sum_append, List.getD_eq_getElem?_getD, List.getElem?_eq_getElem hlj]
        rfl
      have HV := Lib.hid hap
      have j1 := joinVal_in (sumN (X.take j)) (sumN [X.getD j 0]) 1 (by decide)
      rw [← hap] at j1
      have J := Lib.hid j1
      have y1 : (0 : Int) ≤ (j : Int) := Int.natCast_nonneg _
      have y2 : (j : Int) < (k : Int) := by omega
      generalize X.getD j 0 = x at *
      clear hap j1 hc1
      go_wp2_with fail
      refine (csum_any _ 1 (c - j) _ [x] _ HT.out HX.out (by decide)).mono ?_
      rintro e wx ⟨rfl, rfl⟩
      go_wp2_with fail
      refine (cjoin_any _ _ 1 hs hs1 _ HT.out).mono ?_
      rw [show (1 : Int) = ((1 : Nat) : Int) from rfl, J.out.1, J.out.2]
      rintro e wx ⟨rfl, rfl⟩
      have b3 : ((sumN (X.take (j + 1)) : Int) != (sumN (X.take (j + 1)) : Int)) = false := by simp
      have y3 : (j : Int) + 1 ≤ (k : Int) := by omega
      have y4 : (j : Int) + 1 ≤ (c : Int) := by omega
      have y5 : ((j : Int) + 1).toNat = j + 1 := by omega
      go_wp2_with fail
      refine (csum_any _ (j + 1) c _ _ _ HT.out HJ.out (by omega)).mono ?_
      rintro e wx ⟨rfl, rfl⟩
      go_wp2_with fail
      go_round
      case rel => exact ⟨j + 1, by omega, by go_num, rfl⟩
      case measure => simp [intOf]; omega
    · obtain rfl : k = j := by omega
      have hTk : X.take k = X := List.take_of_length_le (by rw [HL.out]; exact Nat.le_refl _)
      rw [hTk] at hs ⊢
      have hzs := sum_lt (AllB.zeros z)
      have q1 : sumN (List.replicate z 0 ++ X) = meetN (sumN (List.replicate z 0)) (sumN X) k := by rw [sum_append, HL.out]
      have q2 : sumN (X ++ List.replicate z 0) = meetN (sumN X) (sumN (List.replicate z 0)) z := by rw [sum_append, List.length_replicate]
      have j1 := joinVal_in (sumN (List.replicate z 0)) (sumN X) k (by omega)
      have j2 := joinVal_in (sumN X) (sumN (List.replicate z 0)) z (by omega)
      rw [← q1] at j1
      rw [← q2] at j2
      have J := Lib.hid (And.intro j1 j2)
      have hmk : ∀ w, (Instr.makeSlice 22 (.int .u8 (z : Int)) (.int .u8 (z : Int))).run Tryd.prog w = .ok (.slice (some ⟨w.heap.size, 0, none⟩) z z) (w.alloc (.cells (madeCells #[.int .u8 0] z) 5)) := fun w => by
        obtain ⟨i0, hi0, hz0, hz1, hz2⟩ := info_parts info5
        have h := run_make (P := Tryd.prog) w 22 5 i0 (.int .u8 0) Tryd.underlying22 hi0 hz0 .u8 .u8 z z (by omega) (Int.le_refl _) (by rw [hz2]; omega) (by omega)
        simpa [hz1, Value.cells] using h
      have OZ := Lib.hid (Own.made w 5 z (by omega))
      have TZ := Lib.hid (HT.out.keep ((Keep.refl w).alloc (madeCells #[.int .u8 0] z) 5))
      have BZ := Lib.hid (HB.out.keep (Nat.le_refl _) ((Keep.refl w).alloc (madeCells #[.int .u8 0] z) 5))
      clear hTk q1 q2 j1 j2
      go_wp2_with fail
      refine (csum_any _ z z _ _ _ TZ.out OZ.out.bytes (by omega)).mono ?_
      rintro e wx ⟨rfl, rfl⟩
      go_wp2_with fail
      refine (cjoin_any _ _ _ hzs hs _ TZ.out).mono ?_
      rw [J.out.1.1, J.out.1.2]
      rintro e wx ⟨rfl, rfl⟩
      go_wp2_with fail
      refine (csum_any _ z z _ _ _ TZ.out OZ.out.bytes (by omega)).mono ?_
      rintro e wx ⟨rfl, rfl⟩
      go_wp2_with fail
      refine (cjoin_any _ _ _ hs hzs _ TZ.out).mono ?_
      rw [J.out.2.1, J.out.2.2]
      rintro e wx ⟨rfl, rfl⟩
      obtain ⟨v1, hv1⟩ : ∃ v, sumN (List.replicate z 0 ++ X) = v := ⟨_, rfl⟩
      obtain ⟨v2, hv2⟩ : ∃ v, sumN (X ++ List.replicate z 0) = v := ⟨_, rfl⟩
      have V1 := Lib.hid hv1
      have V2 := Lib.hid hv2
      rw [hv1, hv2]
      have b1 : ((v1 : Int) == (v1 : Int)) = true := beq_iff_eq.2 rfl
      have b2 : ((v2 : Int) == (v2 : Int)) = true := beq_iff_eq.2 rfl
      clear hv1 hv2 hmk
      go_wp2_with (at_builtin; refine wpList_append_guarded rfl _ _ 22 rfl Tryd.underlying22 info5 rfl (Own.none_ _ (w.heap.size + 1) 5) rfl OZ.out.bytes (by omega) (by simp) ?_)
      intro P1 c1 w1 o1 g1
      have O1 := Lib.hid o1
      have K1 := Lib.hid (((Keep.refl w).alloc (madeCells #[.int .u8 0] z) 5).grown g1 (fun k hk => by cases hk))
      have KZ1 := Lib.hid ((Keep.refl (w.alloc (.cells (madeCells #[.int .u8 0] z) 5))).grown g1 (fun k hk => by cases hk))
      clear o1 g1
      go_wp2_with (at_builtin; refine wpList_append_guarded rfl _ _ 22 rfl Tryd.underlying22 info5 rfl O1.out rfl (HB.out.keep (Nat.le_refl _) K1.out) (by omega) (by have := KZ1.out.size; simpa using this) ?_)
      intro P2 c2 w2 o2 g2
      have O2 := Lib.hid o2
      have K2 := Lib.hid (K1.out.grown g2 (fun k hk => Nat.le_of_succ_le (O1.out.rowLe k hk)))
      have OZ2 : Hid (Bytes w2 w2.heap.size (some ⟨w.heap.size, 0, none⟩) z (List.replicate z 0)) := by
        show Bytes _ _ _ _ _
        have h1 := OZ.out.keep KZ1.out
        have h2 : Own w2 w.heap.size 5 (some ⟨w.heap.size, 0, none⟩) z z (List.replicate z 0) := by
          refine ⟨h1.1.kept g2 (Or.inr fun e => ?_), h1.2⟩
          have h3 := O1.out.rowLe w.heap.size e.symm
          omega
        exact h2.bytes
      clear o2 g2
      go_wp2_with fail
      refine (csum_any _ _ c2 _ _ _ (HT.out.keep K2.out) O2.out.bytes (by omega)).mono ?_
      rw [V1.out]
      rintro e wx ⟨rfl, rfl⟩
      go_wp2_with (at_builtin; refine wpList_append_guarded rfl _ _ 22 rfl Tryd.underlying22 info5 rfl (Own.none_ _ w.heap.size 5) rfl (HB.out.keep (Nat.le_refl _) K2.out) (by omega) K2.out.size ?_)
      intro P3 c3 w3 o3 g4
      have O3 := Lib.hid o3
      have K3 := Lib.hid (K2.out.grown g4 (fun k hk => by cases hk))
      have S3 := Lib.hid ((Keep.refl w2).grown g4 (fun k hk => by cases hk))
      clear o3 g4
      go_wp2_with (at_builtin; refine wpList_append_guarded rfl _ _ 22 rfl Tryd.underlying22 info5 rfl O3.out rfl (OZ2.out.keep (Nat.le_refl _) S3.out) (by omega) K3.out.size ?_)
      intro P4 c4 w4 o4 g5
      have O4 := Lib.hid o4
      have K4 := Lib.hid (K3.out.grown g5 O3.out.rowLe)
      clear o4 g5
      go_wp2_with fail
      refine (csum_any _ _ c4 _ _ _ (HT.out.keep K4.out) O4.out.bytes (by omega)).mono ?_
      rw [V2.out]
      rintro e wx ⟨rfl, rfl⟩
      go_wp2_with fail
      refine (wakes_any _ (HT.out.keep K4.out)).mono ?_
      rintro e w5 ⟨rfl, k5⟩
      have K5 := Lib.hid (K4.out.trans k5)
      clear k5
      go_wp2_with fail
      go_ret
      exact ⟨rfl, K5.out⟩
end Go.Proofs.YthhfahljdbcpjaaDoor
