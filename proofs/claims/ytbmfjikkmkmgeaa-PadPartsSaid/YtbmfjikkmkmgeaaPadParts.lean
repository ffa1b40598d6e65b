/- For any two ints and any Two, the law PadParts answers true: a cut parts a stream for good. -/
import Derived.Test.YtbmfjikkmkmgeaaRows
import Derived.Test.YtbmfjikkmkmgeaaFrame
import Derived.Test.YtbmfjikkmkmgeaaOpen
import Derived.Test.YtbmfjikkmkmgeaaPads
import Derived.Test.YtbmfjikkmkmgeaaPparts
import Derived.ProofKit
namespace Go.Proofs.Ytbmfjikkmkmgeaa.padParts
open Go.ChangeShapes Go.WideShapes Go.ChangeAt Go.RowKit
set_option linter.unusedVariables false

theorem own : ownKnob Try.prog.godebug = none := by kernel_rfl
theorem laidOut : laidOutB Try.prog = true := by kernel_rfl
theorem cells5 : Try.prog.cellsOf 5 = 1 := by kernel_rfl
theorem bytes5 : Try.prog.bytesOf 5 = 1 := by kernel_rfl
set_option maxRecDepth 100000 in
theorem lifted (os : Os) (started : os.Started) (H : Type) (enc : TypeId × Value → H) :
    ReturnsInHanded {} Try.checked os 7 .any (Rows.padPartsSpec.pre6 enc Try.prog Try.f7 Rows.padPartsRow.domain false) (Rows.padPartsSpec.post enc Try.prog Try.f7 false true false false) := by
  refine law_handed (C := Try.checked) own started (by kernel_rfl) Try.func7
    (ChangeSpec.witness6 (enc := enc) (C := Try.checked) false ⟨#[], #[.int .i64 0, .int .i64 0, .agg #[.slice none 0 0, .slice none 0 0]], []⟩ 8 (by kernel_rfl) (by kernel_rfl) (by kernel_rfl) (by kernel_rfl))
    laidOut ?_ (tb := 4) (by kernel_rfl) Try.underlying4 rfl ?_ ?_
  · intro t ht
    rw [Try.params7] at ht
    simp only [List.mem_cons, List.not_mem_nil, or_false] at ht
    rcases ht with rfl | rfl | rfl <;> exact ⟨by kernel_rfl, of_decide_eq_true (by kernel_rfl)⟩
  · intro ds hlen
    match ds, hlen with
    | [_, _, _], _ => rfl
  · intro W base args ds p hval hA hsz
    rw [Try.params7] at hA hval hsz
    obtain ⟨v0, vs0, d0, ds0, p0, q0, hargs, rfl, rfl, h0, r0⟩ := trodAll_cons hA
    obtain ⟨v1, vs1, d1, ds1, p1, q1, rfl, rfl, rfl, h1, r1⟩ := trodAll_cons r0
    obtain ⟨v2, vs2, d2, ds2, p2, q2, rfl, rfl, rfl, h2, r2⟩ := trodAll_cons r1
    obtain ⟨rfl, rfl, rfl⟩ := trodAll_nil r2
    obtain rfl : args = #[v0, v1, v2] := by cases args; simp_all
    obtain ⟨i0, rfl, rfl, rfl, w0⟩ := open_int Try.underlying3 (hval 0 3 v0 rfl rfl) h0
    obtain ⟨i1, rfl, rfl, rfl, w1⟩ := open_int Try.underlying3 (hval 1 3 v1 rfl rfl) h1
    obtain ⟨na2, ca2, nb2, cb2, Aa2, Ab2, xa2, xb2, rfl, ba2, la2, ka2, bb2, lb2, kb2⟩ := arg_two Try.underlying57 (by kernel_rfl) (by kernel_rfl) rfl rfl Try.underlying22 Try.underlying5 cells5 bytes5 hsz (j := 2) rfl rfl (hval 2 57 v2 rfl rfl) h2
    exact padparts_any i0 i1 na2 ca2 nb2 cb2 Aa2 Ab2 xa2 xb2 W ba2 bb2 la2 ka2 lb2 kb2

theorem over : Rows.padPartsRow.holds Try.pinned (OpenSpec.ofChange Rows.padPartsSpec) :=
  OpenClaim.holds_of_wide 7 Try.f7 rfl rfl rfl rfl rfl rfl rfl ⟨rfl, rfl, rfl, rfl, rfl⟩ rfl rfl rfl rfl rfl (by kernel_rfl) Try.func7 (by kernel_rfl)
    (of_decide_eq_true (by kernel_rfl)) (by unfold Func.isWrapper; first | (rw [if_pos (by decide +kernel)]; kernel_rfl) | (rw [if_neg (by decide +kernel)]; exact ⟨rfl, rfl⟩))
    (fun os started H enc _ => lifted os started H enc)

/-- The statement. -/
theorem proved : Rows.PadPartsSaid :=
  over
#print axioms proved
end Go.Proofs.Ytbmfjikkmkmgeaa.padParts
