/- For any Lines, the law SourceLinear answers true: the row of a sum is the sum of the rows; the first that are sent are the symbols, in order; no row that is sent is of noughts alone. -/
import Derived.Test.YtcafofffgmaepaaRows
import Derived.Test.YtcafofffgmaepaaFrame
import Derived.Test.YtcafofffgmaepaaOpen
import Derived.Test.YtcafofffgmaepaaSlinear
import Derived.ProofKit
namespace Go.Proofs.Ytcafofffgmaepaa.sourceLinear
open Go.ChangeShapes Go.WideShapes Go.ChangeAt Go.RowKit
set_option linter.unusedVariables false

theorem own : ownKnob Try.prog.godebug = none := by kernel_rfl
theorem laidOut : laidOutB Try.prog = true := by kernel_rfl
theorem cells5 : Try.prog.cellsOf 5 = 1 := by kernel_rfl
theorem bytes5 : Try.prog.bytesOf 5 = 1 := by kernel_rfl
set_option maxRecDepth 100000 in
theorem lifted (os : Os) (started : os.Started) (H : Type) (enc : TypeId × Value → H) :
    ReturnsInHanded {} Try.checked os 5 .any (Rows.sourceLinearSpec.pre6 enc Try.prog Try.f5 Rows.sourceLinearRow.domain false) (Rows.sourceLinearSpec.post enc Try.prog Try.f5 false true false false) := by
  refine law_handed (C := Try.checked) own started (by kernel_rfl) Try.func5
    (ChangeSpec.witness6 (enc := enc) (C := Try.checked) false ⟨#[], #[.agg #[.int .u8 0, .int .u8 0, .slice none 0 0, .slice none 0 0, .slice none 0 0, .int .u8 0, .int .u16 0, .int .u16 0]], []⟩ 8 (by kernel_rfl) (by kernel_rfl) (by kernel_rfl) (by kernel_rfl))
    laidOut ?_ (tb := 4) (by kernel_rfl) Try.underlying4 rfl ?_ ?_
  · intro t ht
    rw [Try.params5] at ht
    simp only [List.mem_cons, List.not_mem_nil, or_false] at ht
    rcases ht with rfl <;> exact ⟨by kernel_rfl, of_decide_eq_true (by kernel_rfl)⟩
  · intro ds hlen
    match ds, hlen with
    | [_], _ => rfl
  · intro W base args ds p hval hA hsz
    rw [Try.params5] at hA hval hsz
    obtain ⟨v0, vs0, d0, ds0, p0, q0, hargs, rfl, rfl, h0, r0⟩ := trodAll_cons hA
    obtain ⟨rfl, rfl, rfl⟩ := trodAll_nil r0
    obtain rfl : args = #[v0] := by cases args; simp_all
    obtain ⟨G0, S0, C0, M0, N0, na0, ca0, nb0, cb0, nc0, cc0, Aa0, Ab0, Ac0, xa0, xb0, xc0, rfl, hG0, hS0, hC0, hM0, hN0, ⟨ba0, la0, ka0⟩, ⟨bb0, lb0, kb0⟩, bc0, lc0, kc0⟩ := arg_lines Try.underlying78 (by kernel_rfl) (by kernel_rfl) rfl rfl rfl rfl rfl rfl rfl rfl Try.underlying22 Try.underlying5 Try.underlying76 cells5 bytes5 hsz (j := 0) rfl rfl (hval 0 78 v0 rfl rfl) h0
    exact slinear_any G0 S0 C0 M0 N0 na0 ca0 nb0 cb0 nc0 cc0 Aa0 Ab0 Ac0 xa0 xb0 xc0 W hG0 hS0 hC0 hM0 hN0 ba0 la0 ka0 bb0 lb0 bc0 lc0

theorem over : Rows.sourceLinearRow.holds Try.pinned (OpenSpec.ofChange Rows.sourceLinearSpec) :=
  OpenClaim.holds_of_wide 5 Try.f5 rfl rfl rfl rfl rfl rfl rfl ⟨rfl, rfl, rfl, rfl, rfl⟩ rfl rfl rfl rfl rfl (by kernel_rfl) Try.func5 (by kernel_rfl)
    (of_decide_eq_true (by kernel_rfl)) (by unfold Func.isWrapper; first | (rw [if_pos (by decide +kernel)]; kernel_rfl) | (rw [if_neg (by decide +kernel)]; exact ⟨rfl, rfl⟩))
    (fun os started H enc _ => lifted os started H enc)

/-- The statement. -/
theorem proved : Rows.SourceLinearSaid :=
  over
#print axioms proved
end Go.Proofs.Ytcafofffgmaepaa.sourceLinear
