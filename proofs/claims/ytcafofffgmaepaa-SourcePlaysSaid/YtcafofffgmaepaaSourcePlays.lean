/- For any beginning and any calls, the law SourcePlays answers true: rows of calls are answered as the document says. -/
import Derived.Test.YtcafofffgmaepaaRows
import Derived.Test.YtcafofffgmaepaaFrame
import Derived.Test.YtcafofffgmaepaaOpen
import Derived.Test.YtcafofffgmaepaaSplays
import Derived.ProofKit
namespace Go.Proofs.Ytcafofffgmaepaa.sourcePlays
open Go.ChangeShapes Go.WideShapes Go.ChangeAt Go.RowKit
set_option linter.unusedVariables false

theorem own : ownKnob Try.prog.godebug = none := by kernel_rfl
theorem laidOut : laidOutB Try.prog = true := by kernel_rfl
theorem cells5 : Try.prog.cellsOf 5 = 1 := by kernel_rfl
theorem bytes5 : Try.prog.bytesOf 5 = 1 := by kernel_rfl
theorem cells22 : Try.prog.cellsOf 22 = 1 := by kernel_rfl
theorem bytes22 : 1 ≤ Try.prog.bytesOf 22 := of_decide_eq_true (by kernel_rfl)
set_option maxRecDepth 100000 in
theorem lifted (os : Os) (started : os.Started) (H : Type) (enc : TypeId × Value → H) :
    ReturnsInHanded {} Try.checked os 3 .any (Rows.sourcePlaysSpec.pre6 enc Try.prog Try.f3 Rows.sourcePlaysRow.domain false) (Rows.sourcePlaysSpec.post enc Try.prog Try.f3 false true false false) := by
  refine law_handed (C := Try.checked) own started (by kernel_rfl) Try.func3
    (ChangeSpec.witness6 (enc := enc) (C := Try.checked) false ⟨#[], #[.agg #[.int .i64 0, .int .i64 0, .slice none 0 0, .slice none 0 0, .bool false, .bool false], .slice none 0 0], []⟩ 8 (by kernel_rfl) (by kernel_rfl) (by kernel_rfl) (by kernel_rfl))
    laidOut ?_ (tb := 4) (by kernel_rfl) Try.underlying4 rfl ?_ ?_
  · intro t ht
    rw [Try.params3] at ht
    simp only [List.mem_cons, List.not_mem_nil, or_false] at ht
    rcases ht with rfl | rfl <;> exact ⟨by kernel_rfl, of_decide_eq_true (by kernel_rfl)⟩
  · intro ds hlen
    match ds, hlen with
    | [_, _], _ => rfl
  · intro W base args ds p hval hA hsz
    rw [Try.params3] at hA hval hsz
    obtain ⟨v0, vs0, d0, ds0, p0, q0, hargs, rfl, rfl, h0, r0⟩ := trodAll_cons hA
    obtain ⟨v1, vs1, d1, ds1, p1, q1, rfl, rfl, rfl, h1, r1⟩ := trodAll_cons r0
    obtain ⟨rfl, rfl, rfl⟩ := trodAll_nil r1
    obtain rfl : args = #[v0, v1] := by cases args; simp_all
    obtain ⟨g0, s0, na0, ca0, nb0, cb0, Aa0, Ab0, xa0, zb0, cl0, rs0, rfl, ⟨ba0, la0, ka0⟩, bb0, hz0, lb0, kb0⟩ := arg_begin Try.underlying27 (by kernel_rfl) rfl rfl rfl rfl rfl rfl rfl rfl rfl rfl Try.underlying25 (by kernel_rfl) rfl rfl rfl rfl Try.underlying23 (by kernel_rfl) Try.underlying3 (by kernel_rfl) (of_decide_eq_true (by kernel_rfl)) Try.underlying22 cells22 Try.underlying5 cells5 bytes5 Try.underlying4 (by kernel_rfl) hsz (j := 0) rfl rfl (hval 0 27 v0 rfl rfl) h0
    obtain ⟨A1, n1, c1, l1, rfl, b1, q1, k1⟩ := arg_calls Try.underlying28 Try.underlying43 (by kernel_rfl) (by kernel_rfl) (of_decide_eq_true (by kernel_rfl)) rfl rfl rfl rfl Try.underlying3 Try.underlying41 Try.underlying22 Try.underlying5 cells5 bytes5 hsz (j := 1) rfl rfl (hval 1 28 v1 rfl rfl) h1
    exact splays_any g0 s0 na0 ca0 nb0 cb0 n1 c1 Aa0 Ab0 A1 xa0 zb0 cl0 rs0 l1 W ba0 la0 ka0 bb0 hz0 lb0 kb0 b1 q1

theorem over : Rows.sourcePlaysRow.holds Try.pinned (OpenSpec.ofChange Rows.sourcePlaysSpec) :=
  OpenClaim.holds_of_wide 3 Try.f3 rfl rfl rfl rfl rfl rfl rfl ⟨rfl, rfl, rfl, rfl, rfl⟩ rfl rfl rfl rfl rfl (by kernel_rfl) Try.func3 (by kernel_rfl)
    (of_decide_eq_true (by kernel_rfl)) (by unfold Func.isWrapper; first | (rw [if_pos (by decide +kernel)]; kernel_rfl) | (rw [if_neg (by decide +kernel)]; exact ⟨rfl, rfl⟩))
    (fun os started H enc _ => lifted os started H enc)

/-- The statement. -/
theorem proved : Rows.SourcePlaysSaid :=
  over
#print axioms proved
end Go.Proofs.Ytcafofffgmaepaa.sourcePlays
