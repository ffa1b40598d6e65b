/- The walk of FrameKnown. -/
import Derived.Test.YtgkihfemlbhioaaDoorLk7
namespace Go.Proofs.YtgkihfemlbhioaaDoor
open Go.RowKit Fr Crc
set_option linter.unusedVariables false
set_option linter.unusedSimpArgs false
set_option maxRecDepth 100000 in
set_option maxHeartbeats 16000000 in
theorem known_any (w : World) (hT : TabW w) : Calls Tryd.prog 8 #[] w fun e w' => e = .returned (.bool true) ∧ Keep w w' := by
  have HT := Lib.hid hT
  have hmk1 : ∀ w, (Instr.makeSlice 23 (.int .i64 255) (.int .i64 255)).run Tryd.prog w = .ok (.slice (some ⟨w.heap.size, 0, none⟩) 255 255) (w.alloc (.cells (madeCells #[.int .u8 0] 255) 5)) := fun w => run_make_bytes (P := Tryd.prog) Tryd.underlying23 info5 255 (by omega) w
  have hmk2 : ∀ w, (Instr.makeSlice 23 (.int .i64 65535) (.int .i64 65535)).run Tryd.prog w = .ok (.slice (some ⟨w.heap.size, 0, none⟩) 65535 65535) (w.alloc (.cells (madeCells #[.int .u8 0] 65535) 5)) := fun w => run_make_bytes (P := Tryd.prog) Tryd.underlying23 info5 65535 (by omega) w
  obtain ⟨C1, hC1⟩ : ∃ x, madeCells #[Value.int .u8 0] 255 = x := ⟨_, rfl⟩
  obtain ⟨C2, hC2⟩ : ∃ x, madeCells #[Value.int .u8 0] 65535 = x := ⟨_, rfl⟩
  rw [hC1] at hmk1
  rw [hC2] at hmk2
  have HC1 := Lib.hid hC1
  have HC2 := Lib.hid hC2
  clear hC1 hC2
  clear hT
  go_enter Tryd.func8, Tryd.ntmps8
  go_upto_region 1 with fail
  go_cut [1] (fun v wx => ∃ (g : Nat) (m : FrM), v = .pointer (some ⟨g, 0, none⟩) ∧ BigBox wx g m ∧ BigIn wx m ∧ Keep w wx)
  case first =>
    go_region
    all_goals go_wp2_with fail
    all_goals go_meet
    case rel => exact big_rel HC1.out HC2.out (three_blocks w _ _ _ _ _ _).1.2.2 (three_blocks w _ _ _ _ _ _).1.1 (three_blocks w _ _ _ _ _ _).1.2.1 (three_blocks w _ _ _ _ _ _).2
    case rel => exact big_rel HC1.out HC2.out (three_blocks w _ _ _ _ _ _).1.2.1 (three_blocks w _ _ _ _ _ _).1.1 (three_blocks w _ _ _ _ _ _).1.2.2 (three_blocks w _ _ _ _ _ _).2
    case rel => exact big_rel HC1.out HC2.out (three_blocks w _ _ _ _ _ _).1.2.2 (three_blocks w _ _ _ _ _ _).1.2.1 (three_blocks w _ _ _ _ _ _).1.1 (three_blocks w _ _ _ _ _ _).2
    case rel => exact big_rel HC1.out HC2.out (three_blocks w _ _ _ _ _ _).1.2.1 (three_blocks w _ _ _ _ _ _).1.2.2 (three_blocks w _ _ _ _ _ _).1.1 (three_blocks w _ _ _ _ _ _).2
    case rel => exact big_rel HC1.out HC2.out (three_blocks w _ _ _ _ _ _).1.1 (three_blocks w _ _ _ _ _ _).1.2.1 (three_blocks w _ _ _ _ _ _).1.2.2 (three_blocks w _ _ _ _ _ _).2
    case rel => exact big_rel HC1.out HC2.out (three_blocks w _ _ _ _ _ _).1.1 (three_blocks w _ _ _ _ _ _).1.2.2 (three_blocks w _ _ _ _ _ _).1.2.1 (three_blocks w _ _ _ _ _ _).2
  case rest =>
    clear hmk1 hmk2 HC1 HC2
    obtain ⟨g1, m1, rfl, hb1, hf1, k1⟩ := hcut
    obtain ⟨w1, rfl⟩ : ∃ w1, w1 = wc := ⟨_, rfl⟩
    go_upto_region 2 with fail
    exact known_two w1 w HT.out g1 m1 hb1 hf1 k1 _ _ _ _ _ _ _ _ _ _ _ _ _ _ _ _ _ _ _ _ _ _ _ _ _ _ _ _ _ _ _ _ _ _ _ _ _ _ _ _ _ _ _ _ _ _ _ _ _ _ _ _ _ _ _ _ _ _ _ _ _ _ _ _ _ _ _ _ _ _ _ _ _ _ _ _ _ _ _ _ _ _ _ _ _ _ _ _ _ _ _ _ _ _ _ _ _ _ _ _ _ _ _ _ _ _ _ _ _ _ _ _ _ _ (by assumption)
end Go.Proofs.YtgkihfemlbhioaaDoor
