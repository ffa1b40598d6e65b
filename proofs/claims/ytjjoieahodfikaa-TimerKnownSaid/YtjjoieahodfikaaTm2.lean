/- The landed timers: New, isMade, lay, Set, Stop, Again, Now. -/
import Derived.Test.YtjjoieahodfikaaQaa
import Derived.StillTailTactics
namespace Go.Proofs.Ytjjoieahodfikaa
open Go.RowKit Go.Maps Tmr
set_option linter.unusedVariables false
set_option linter.unusedSimpArgs false
set_option maxRecDepth 100000
theorem run_leastT (a m : Nat) (h : min a 1099511627776 = m) (w : World) : (Builtin.min_ #[27, 27] 27 #[.int .u64 (a : Int), .int .u64 1099511627776]).run Try.prog w = .ok (.int .u64 (m : Int)) w := by
  rw [run_min_int2]; congr 2; split <;> omega
theorem map_some (mb : Nat) (w : World) : (binOp BinOp.neq 60 (.map (some mb)) (.map none)).run Try.prog w = .ok (.bool true) w := by kernel_rfl
section
variable {w : World} {B g mb clk : Nat} {l : List Alarm}
theorem tmade (h : TmL w B g mb clk l) : Calls Try.prog 23 #[.pointer (some ⟨g, 0, none⟩)] w fun r w' => r = .returned (.bool true) ∧ w' = w := by
  have c1 := h.c1
  have hb := map_some mb w
  clear h
  go_enter Try.func23, Try.ntmps23
  go_wp2_with fail
  go_ret
  exact ⟨rfl, rfl⟩
theorem tmade_none (w : World) : Calls Try.prog 23 #[.pointer none] w fun r w' => r = .returned (.bool false) ∧ w' = w := by
  go_enter Try.func23, Try.ntmps23
  go_wp2_with fail
  go_ret
  exact ⟨rfl, rfl⟩
/-- lay: whatever the map's store leaves. -/
theorem tlay (h : TmL w B g mb clk l) (a : Alarm) (he : a.every ≤ maxT) (hd : a.due = later clk a.every) (l' : List Alarm) (h1 : Rising l') (h2 : ∀ b ∈ l', FineA b) (h3 : l'.length ≤ 100000)
    (hr : ∃ w', (Instr.mapUpdate 60 (.map (some mb)) (.int .i64 (a.name : Int)) (almC a.every a.due)).run Try.prog w.drew = .ok () w' ∧ MapA w' mb l' ∧ w.drew.grownBy w' (some mb)) :
    Calls Try.prog 24 #[.pointer (some ⟨g, 0, none⟩), .int .i64 (a.name : Int), .int .u64 (a.every : Int)] w fun r w' => r = .returned (.tuple #[]) ∧ TmL w' B g mb clk l' ∧ Turned (fun b => b = mb) w w' := by
  obtain ⟨w2, hrun, hm, hg⟩ := hr
  have hT : Turned (fun b => b = mb) w w2 := ((Turned.of_keep (F := fun b => b = mb) (Keep.refl w).drew).trans (Turned.of_grown (F := fun b => b = mb) hg fun i e => (Option.some.inj e).symm) fun i e => Or.inl e)
  have hD : TmL w2 B g mb clk l' := ⟨(hT.block g h.lt (fun e => h.ap e.symm)).trans h.block, hm, h.ap, h.low, h1, h.clock, h2, h3⟩
  have HT := Lib.hid hT
  have HD := Lib.hid hD
  have hc := h.clock
  unfold maxT at hc he
  obtain ⟨s, hs⟩ : ∃ s, clk + a.every = s := ⟨_, rfl⟩
  have e1 : IntKind.u64.wrap ((clk : Int) + (a.every : Int)) = (s : Int) := by rw [IntWalk.u64_in _ (by omega)]; omega
  have hmn := run_leastT s a.due (by rw [hd]; unfold later maxT; rw [hs]) w.drew
  have c0 : w.drew.cell? ⟨g, 0, none⟩ = some (.int .u64 (clk : Int)) := h.c0
  have c1 : w.drew.cell? ⟨g, 1, none⟩ = some (.map (some mb)) := h.c1
  unfold almC at hrun
  clear hT hD hc he hd hm hg hs h h1 h2 h3
  go_enter Try.func24, Try.ntmps24
  refine wp_region_still_tail (w := w) 14 (by kernel_rfl) (by kernel_rfl) ?_
  simp only [List.take_succ_cons, List.take_zero, List.drop_succ_cons, List.drop_zero]
  change wpStill _ _ (World.drew w) _ _ _
  iterate 14 still_step
  refine wpStill_nil ?_
  change wpList _ _ _ _ _ (World.drew w)
  go_wp2_with fail
  go_end0
  exact ⟨rfl, HD.out, HT.out⟩
end
end Go.Proofs.Ytjjoieahodfikaa
