/- For any bytes, any two bytes for sizes and any Carries, the law TopLine answers true: rows go as frames over a line that turns bits within 32 in a row, from relay to relay: what was turned is refused, what was not is taken as it was sent; each relay has true rows alone, no more than the one ahead; whoever has full rank tells the symbols. -/
import Derived.Test.YtifopodnceopjaaGreatDoorCards
import Derived.Test.YtifopodnceopjaaGreatDoorTie
import Derived.Test.YtifopodnceopjaaGreatDoorQab
import Derived.Test.YtifopodnceopjaaGreatDoorQaa
import Derived.Test.YtifopodnceopjaaGreatDoorTopl
import Derived.ProofKit
import Derived.Deep.DeepHandedRow
namespace Go.Proofs.YtifopodnceopjaaGreatDoor.topLine
open Go.ChangeShapes Go.WideShapes Go.ChangeAt Go.RowKit
set_option linter.unusedVariables false

theorem own : ownKnob Tryz.prog.godebug = none := by kernel_rfl
theorem laidOut : laidOutB Tryz.prog = true := by kernel_rfl
theorem cells5 : Tryz.prog.cellsOf 5 = 1 := by kernel_rfl
theorem bytes5 : Tryz.prog.bytesOf 5 = 1 := by kernel_rfl
theorem laid_met (os : Os) : laidMet Tryz.prog Rows.topLineRow.laid ((laidWorld os).forCall (fun _ _ => 0) ⟨#[], #[.slice none 0 0, .agg #[.int .u8 0, .int .u8 0], .slice none 0 0], []⟩).memory :=
  laidMet_of_run' 8 (by kernel_rfl) (by kernel_rfl)
theorem reads (os : Os) {H : Type} (enc : TypeId × Value → H) : ∃ places, DataW.whole enc Tryz.prog ((laidWorld os).forCall (fun _ _ => 0) ⟨#[], #[.slice none 0 0, .agg #[.int .u8 0, .int .u8 0], .slice none 0 0], []⟩).memory Tryz.f3.params.toList Rows.topLineSpec.vars false #[Value.slice none 0 0, .agg #[.int .u8 0, .int .u8 0], .slice none 0 0].toList 8 = some ([.nil, .agg [.lit (.int .u8 0), .lit (.int .u8 0)], .nil], [], places) :=
  ⟨[], by kernel_rfl⟩
set_option maxHeartbeats 8000000 in
set_option maxRecDepth 100000 in
theorem lifted (os : Os) (started : os.Started) (H : Type) (enc : TypeId × Value → H) (F : Stop.Interp) :
    ReturnsInHanded {} Tryz.checked os 3 .any ((OpenSpec.ofChange Rows.topLineSpec).preRow enc Tryz.prog Tryz.f3 Rows.topLineRow.domain false Rows.topLineRow.laid) (((OpenSpec.ofChange Rows.topLineSpec).at F).post enc Tryz.prog Tryz.f3 false true false false) := by
  obtain ⟨places, hx⟩ := reads os enc
  refine law_handed_laid (C := Tryz.checked) (s := OpenSpec.ofChange Rows.topLineSpec) (sc := Rows.topLineSpec) rfl own started (by kernel_rfl) Tryz.func3
    (witness_row_at (enc := enc) (C := Tryz.checked) false (laidWorld os) #[.slice none 0 0, .agg #[.int .u8 0, .int .u8 0], .slice none 0 0] rfl (by kernel_rfl) (by kernel_rfl) (by kernel_rfl)
      (OpenSpec.preRow_of_cond 8 hx (by kernel_rfl) (fun k hk => by cases hk) (by kernel_rfl) (laid_met os)))
    laidOut ?_ (tb := 4) (by kernel_rfl) Tryz.underlying4 rfl rfl rfl ?_ ?_
  · intro t ht
    rw [Tryz.params3] at ht
    simp only [List.mem_cons, List.not_mem_nil, or_false] at ht
    rcases ht with rfl | rfl | rfl <;> exact ⟨by kernel_rfl, of_decide_eq_true (by kernel_rfl)⟩
  · intro ds hlen
    match ds, hlen with
    | [_, _, _], _ => rfl
  · intro W base args ds p hval hA hsz _ hL
    rw [Tryz.params3] at hA hval hsz
    obtain ⟨v0, vs0, d0, ds0, p0, q0, hargs, rfl, rfl, h0, r0⟩ := trodAll_cons hA
    obtain ⟨v1, vs1, d1, ds1, p1, q1, rfl, rfl, rfl, h1, r1⟩ := trodAll_cons r0
    obtain ⟨v2, vs2, d2, ds2, p2, q2, rfl, rfl, rfl, h2, r2⟩ := trodAll_cons r1
    obtain ⟨rfl, rfl, rfl⟩ := trodAll_nil r2
    obtain rfl : args = #[v0, v1, v2] := by cases args; simp_all
    obtain ⟨A0, n0, c0, xs0, rfl, b0, l0, q0⟩ := arg_bytes Tryz.underlying22 Tryz.underlying5 cells5 bytes5 hsz (j := 0) rfl rfl (hval 0 22 v0 rfl rfl) h0
    obtain ⟨x1a, x1b, rfl, hx1a, hx1b⟩ := arg_arr2 Tryz.underlying23 Tryz.underlying5 cells5 (by kernel_rfl) (hval 1 23 v1 rfl rfl) h1
    obtain ⟨A2, n2, c2, l2, rfl, b2, q2, k2⟩ := arg_cars Tryz.underlying24 Tryz.underlying42 (by kernel_rfl) (of_decide_eq_true (by kernel_rfl)) ⟨rfl, rfl⟩ ⟨rfl, rfl⟩ ⟨rfl, rfl⟩ ⟨rfl, rfl⟩ Tryz.underlying5 cells5 Tryz.underlying39 (by kernel_rfl) Tryz.underlying40 (by kernel_rfl) Tryz.underlying22 (by kernel_rfl) Tryz.underlying5 cells5 bytes5 hsz (j := 2) rfl rfl (hval 2 24 v2 rfl rfl) h2
    exact topline_any n0 c0 x1a x1b n2 c2 A0 A2 xs0 l2 W (tabW_laid hL) b0 b2 (Nat.le_trans l0 (by decide)) q2 hx1a hx1b

theorem said : Rows.TopLineSaid :=
  OpenClaim.holds_of_cond 3 Tryz.f3 rfl rfl rfl rfl rfl rfl rfl ⟨rfl, rfl, rfl, rfl, rfl⟩ rfl rfl rfl rfl rfl (by kernel_rfl) Tryz.func3 (by kernel_rfl)
    (of_decide_eq_true (by kernel_rfl)) (by unfold Func.isWrapper; first | (rw [if_pos (by decide +kernel)]; kernel_rfl) | (rw [if_neg (by decide +kernel)]; exact ⟨rfl, rfl⟩))
    (fun os started H enc _ F => by rw [OpenClaim.pre_eq_preRow]; exact lifted os started H enc F)
theorem plain (f : FuncId) (fn : Func) (hf : Tryz.pinned.checked.prog.funcNamed "braidwork/braidworktop.TopLine" = some f) (hfn : Tryz.pinned.checked.prog.funcs[f]? = some fn) :
    false = Tryz.pinned.checked.prog.looks [] ∧ ∀ (j : Nat) t, fn.params[j]? = some t → Tryz.pinned.checked.prog.wantsStandIn t = false := by
  obtain rfl : f = 3 := Option.some.inj ((show Tryz.prog.funcNamed "braidwork/braidworktop.TopLine" = some 3 by kernel_rfl).symm.trans hf) |>.symm
  obtain rfl : fn = Tryz.f3 := (Option.some.inj (Tryz.func3.symm.trans hfn)).symm
  refine ⟨by kernel_rfl, fun j t ht => ?_⟩
  rw [Tryz.params3] at ht
  have hm := Array.mem_of_getElem? ht
  simp only [List.mem_toArray, List.mem_cons, List.not_mem_nil, or_false] at hm
  rcases hm with rfl | rfl | rfl <;> exact (show Tryz.prog.wantsStandIn _ = false by kernel_rfl)

/-- The statement: the tied card. -/
theorem proved : Rows.TopLineCardSaid :=
  Claim7.holds_tied_plain_at .later [] _ _ _ _ said (fun _ h => by cases h) (by kernel_rfl) (fun _ h => by cases h) topLine_row_tie rfl ⟨rfl, rfl⟩ (by kernel_rfl) rfl plain (by kernel_rfl)
#print axioms proved
end Go.Proofs.YtifopodnceopjaaGreatDoor.topLine
