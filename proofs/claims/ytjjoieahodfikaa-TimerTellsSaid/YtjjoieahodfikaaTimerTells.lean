/- For any slice of numbers of 16 bits and any slice of numbers of 32 bits, the law TimerTells answers true: an alarm is told at the first Tick behind which its time is reached, once a Tick, never ahead of it; then it is due its every from that Tick on. -/
import Derived.Test.YtjjoieahodfikaaRows
import Derived.Test.YtjjoieahodfikaaQaa
import Derived.Test.YtjjoieahodfikaaTte
import Derived.ProofKit
namespace Go.Proofs.Ytjjoieahodfikaa.timerTells
open Go.ChangeShapes Go.WideShapes Go.ChangeAt Go.RowKit
set_option linter.unusedVariables false

theorem own : ownKnob Try.prog.godebug = none := by kernel_rfl
theorem laidOut : laidOutB Try.prog = true := by kernel_rfl
set_option maxRecDepth 100000 in
theorem lifted (os : Os) (started : os.Started) (H : Type) (enc : TypeId × Value → H) :
    ReturnsInHanded {} Try.checked os 4 .any (Rows.timerTellsSpec.pre6 enc Try.prog Try.f4 Rows.timerTellsRow.domain false) (Rows.timerTellsSpec.post enc Try.prog Try.f4 false true false false) := by
  refine law_handed (C := Try.checked) own started (by kernel_rfl) Try.func4
    (ChangeSpec.witness6 (enc := enc) (C := Try.checked) false ⟨#[], #[.slice none 0 0, .slice none 0 0], []⟩ 8 (by kernel_rfl) (by kernel_rfl) (by kernel_rfl) (by kernel_rfl))
    laidOut ?_ (tb := 4) (by kernel_rfl) Try.underlying4 rfl ?_ ?_
  · intro t ht
    rw [Try.params4] at ht
    simp only [List.mem_cons, List.not_mem_nil, or_false] at ht
    rcases ht with rfl | rfl <;> exact ⟨by kernel_rfl, of_decide_eq_true (by kernel_rfl)⟩
  · intro ds hlen
    match ds, hlen with
    | [_, _], _ => rfl
  · intro W base args ds p hval hA hsz
    rw [Try.params4] at hA hval hsz
    obtain ⟨v0, vs0, d0, ds0, p0, q0, hargs, rfl, rfl, h0, r0⟩ := trodAll_cons hA
    obtain ⟨v1, vs1, d1, ds1, p1, q1, rfl, rfl, rfl, h1, r1⟩ := trodAll_cons r0
    obtain ⟨rfl, rfl, rfl⟩ := trodAll_nil r1
    obtain rfl : args = #[v0, v1] := by cases args; simp_all
    obtain ⟨A0, n0, c0, l0, rfl, b0, z0, q0, k0⟩ := arg_ks (q := .u16) (fun a ha => tu16_wf ha) Try.underlying51 Try.underlying54 (by kernel_rfl) (of_decide_eq_true (by kernel_rfl)) hsz (j := 0) rfl rfl (hval 0 51 v0 rfl rfl) h0
    obtain ⟨A1, n1, c1, l1, rfl, b1, z1, q1, k1⟩ := arg_ks (q := .u32) (fun a ha => tu32_wf ha) Try.underlying52 Try.underlying55 (by kernel_rfl) (of_decide_eq_true (by kernel_rfl)) hsz (j := 1) rfl rfl (hval 1 52 v1 rfl rfl) h1
    exact ttells n0 c0 n1 c1 A0 A1 l0 l1 W b0 z0 q0 k0 b1 z1 q1

theorem over : Rows.timerTellsRow.holds Try.pinned (OpenSpec.ofChange Rows.timerTellsSpec) :=
  OpenClaim.holds_of_wide 4 Try.f4 rfl rfl rfl rfl rfl rfl rfl ⟨rfl, rfl, rfl, rfl, rfl⟩ rfl rfl rfl rfl rfl (by kernel_rfl) Try.func4 (by kernel_rfl)
    (of_decide_eq_true (by kernel_rfl)) (by unfold Func.isWrapper; first | (rw [if_pos (by decide +kernel)]; kernel_rfl) | (rw [if_neg (by decide +kernel)]; exact ⟨rfl, rfl⟩))
    (fun os started H enc _ => lifted os started H enc)

/-- The statement. -/
theorem proved : Rows.TimerTellsSaid :=
  over
#print axioms proved
end Go.Proofs.Ytjjoieahodfikaa.timerTells
