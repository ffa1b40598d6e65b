/- The symbols that layer 14's statements lay. -/
import Derived.Test.YtcjjhblgejkkeaaGreatSshape
namespace Go.Proofs.YtcjjhblgejkkeaaGreat
open Go.RowKit
set_option linter.unusedVariables false
set_option linter.unusedSimpArgs false
set_option maxRecDepth 100000 in
set_option maxHeartbeats 4000000 in
theorem symbols_mat (B n c rows cols : Nat) (A : Option Addr) (xs : List Nat) (w : World) (h : Bytes w B A n xs) (hB : B ≤ w.heap.size) (hn : n ≤ 140737488355328) (h1 : rows ≤ 1000) (h2 : cols ≤ 1000) :
    Calls Tryz.prog 33 #[.slice A n c, .int .i64 (rows : Int), .int .i64 (cols : Int)] w fun e w' => ∃ A' n' c', e = .returned (.slice A' n' c') ∧ Mat w' ⟨A', n', c', shapeN xs rows cols⟩ ∧ Keep w w' := by
  have H := Lib.hid h
  have HXL : Hid (xs.length = n) := h.length
  have mk2 := fun w => run_make_bytes (P := Tryz.prog) Tryz.underlying32 info5 cols (by omega) w
  clear h
  go_enter Tryz.func33, Tryz.ntmps33
  go_wp2_with fail
  go_loopw [7, 8] (fun mv iv wr => ∃ (i : Nat) (A : Option Addr) (c : Nat) (rs : List RowV), i ≤ rows ∧ iv = .int .i64 i ∧ mv = .slice A i c ∧ Lay w wr A i c rs ∧ rowsXs rs = shapeN xs i cols) (fun _ iv _ => rows - (intOf iv).toNat)
  case atStart => exact ⟨0, none, 0, [], by omega, rfl, rfl, Lay.nothing w, rfl⟩
  case round =>
    obtain ⟨i, A1, c1, rs, hi, rfl, rfl, hL, hx⟩ := hrel
    have HL := Lib.hid hL
    have HX := Lib.hid hx
    by_cases hlt : i < rows
    · have e1 : (0 : Int) ≤ (i : Int) := Int.natCast_nonneg _
      have e2 : (i : Int) < (rows : Int) := by omega
      obtain ⟨gr, hgr⟩ : ∃ gr, wr.heap.size = gr := ⟨_, rfl⟩
      have oR := Own.made wr 5 cols (by omega)
      rw [hgr, show List.replicate cols 0 = partP xs cols i 0 by rw [replicate_tab, partP]; exact tab_congr fun x _ => by rw [if_neg (by omega)]] at oR
      generalize madeCells #[.int .u8 0] cols = MC at *
      have OS := Lib.hid oR
      have KS : Hid (Keep wr (wr.alloc (.cells MC 5))) := (Keep.refl wr).alloc _ _
      have HG := Lib.hid hgr
      clear hL hx oR
      go_wp2_with fail
      try rw [HG.out]
      clear hgr
      go_loopw [10] (fun kv wz => ∃ k : Nat, k ≤ cols ∧ kv = .int .i64 k ∧ Own wz gr 5 (some ⟨gr, 0, none⟩) cols cols (partP xs cols i k) ∧ Keep wr wz) (fun kv _ => cols - (intOf kv).toNat)
      case atStart => exact ⟨0, by omega, rfl, OS.out, KS.out⟩
      case round =>
        clear OS KS
        obtain ⟨k, hkc, rfl, hoz, hkz⟩ := hrel
        obtain ⟨p, hp⟩ : ∃ p, i * cols = p := ⟨_, rfl⟩
        have hpb : p ≤ 1000000 := by rw [← hp]; exact Nat.le_trans (Nat.mul_le_mul (show i ≤ 1000 by omega) h2) (by decide)
        have d1 : (i : Int) * (cols : Int) = (p : Int) := by rw [← hp]; simp
        obtain ⟨s, hs⟩ : ∃ s, p + k = s := ⟨_, rfl⟩
        have d2 : (p : Int) + (k : Int) = (s : Int) := by omega
        have w1 : IntKind.i64.wrap (p : Int) = (p : Int) := IntWalk.i64_in _ (by omega)
        have w2 : IntKind.i64.wrap (s : Int) = (s : Int) := IntWalk.i64_in _ (by omega)
        have hips : i * cols + k = s := by rw [hp, hs]
        have f1 : (0 : Int) ≤ (k : Int) := Int.natCast_nonneg _
        by_cases hin : k < cols ∧ s < n
        · have f2 : (k : Int) < (cols : Int) := by omega
          have f3 : (s : Int) < (n : Int) := by omega
          have f4 : decide ((s : Int) < (n : Int)) = true := decide_eq_true f3
          have f4' : decide (s < n) = true := decide_eq_true hin.2
          have f5 : (0 : Int) ≤ (s : Int) := Int.natCast_nonneg _
          obtain ⟨b1, o1, rfl, hb1, c2⟩ := (H.out.keep hB (HL.out.keep.trans hkz)).at_ hin.2
          have c3 := hoz.frozen k
          have c4 := hoz.cell hin.1
          have hx : xs.getD s 0 < 256 := H.out.2.1.getD s
          have o2 := hoz.stored (i := k) (v := xs.getD s 0) hx
          have hps := partP_step xs cols i k
          rw [hips] at hps
          rw [hps] at o2
          have HO2 := Lib.hid o2
          have HK2 := Lib.hid (hkz.setCell (a := ⟨gr, k, none⟩) (by rw [HG.out]; exact Nat.le_refl _) (.int .u8 ((xs.getD s 0 : Nat) : Int)))
          generalize xs.getD s 0 = x at *
          clear hoz hkz o2 hps hips hp hs hb1
          go_wp2_with fail
          go_roundw
          case rel => exact ⟨k + 1, by omega, by go_num, HO2.out, HK2.out⟩
          case measure => simp [intOf]; omega
        · have hdone := partP_done xs cols i k (by rw [HXL.out, hips]; omega)
          rw [hdone] at hoz
          have HOz := Lib.hid hoz
          have HLz := Lib.hid (HL.out.later hkz)
          have HXz : Hid (rowsXs (rs ++ [⟨some ⟨gr, 0, none⟩, cols, cols, shapeR xs cols i⟩]) = shapeN xs (i + 1) cols) := by
            show _ = _
            rw [shapeN_succ, ← HX.out]; simp [rowsXs]
          clear hoz hkz hdone hips hp hs
          by_cases hkk : k < cols
          · have f2 : (k : Int) < (cols : Int) := by omega
            have f3 : ¬ (s : Int) < (n : Int) := by omega
            have f4 : decide ((s : Int) < (n : Int)) = false := decide_eq_false f3
            have f4' : decide (s < n) = false := decide_eq_false (by omega)
            clear hin
            go_wp2_with (at_builtin; refine wpList_append_layrow rfl _ _ 47 rfl ⟨some ⟨gr, 0, none⟩, cols, cols, shapeR xs cols i⟩ 32 Tryz.underlying47 rfl HLz.out (HLz.out.own HOz.out) rfl (by omega) ?_)
            intro A8 c8 w8 h8
            have H8 := Lib.hid h8
            clear h8
            go_wp2_with fail
            go_roundw
            case rel => exact ⟨i + 1, A8, c8, _, by omega, by go_num, rfl, H8.out, HXz.out⟩
            case measure => simp [intOf]; omega
          · have f2 : ¬ (k : Int) < (cols : Int) := by omega
            clear hin
            go_wp2_with (at_builtin; refine wpList_append_layrow rfl _ _ 47 rfl ⟨some ⟨gr, 0, none⟩, cols, cols, shapeR xs cols i⟩ 32 Tryz.underlying47 rfl HLz.out (HLz.out.own HOz.out) rfl (by omega) ?_)
            intro A8 c8 w8 h8
            have H8 := Lib.hid h8
            clear h8
            go_wp2_with fail
            go_roundw
            case rel => exact ⟨i + 1, A8, c8, _, by omega, by go_num, rfl, H8.out, HXz.out⟩
            case measure => simp [intOf]; omega
    · obtain rfl : i = rows := by omega
      have hm := hL.mat
      rw [hx] at hm
      have HM := Lib.hid hm
      have HK := Lib.hid hL.keep
      clear hL hx hm
      go_wp2_with fail
      go_ret
      exact ⟨_, _, _, rfl, HM.out, HK.out⟩
end Go.Proofs.YtcjjhblgejkkeaaGreat
