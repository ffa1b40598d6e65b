/- For any three slices of bytes and any three bytes, the law SpanWitness answers true: what Witness's draw makes does not lie in other's span, and makes its rank one more; if there is none, no draw makes anything that does not. -/
import Derived.Test.YtofhdaeeiienfaaRows
import Derived.Test.YtofhdaeeiienfaaFrame
import Derived.Test.YtofhdaeeiienfaaOpen
import Derived.Test.YtofhdaeeiienfaaArr
import Derived.Test.YtofhdaeeiienfaaArr3
import Derived.Test.YtofhdaeeiienfaaSwitness
import Derived.ProofKit
namespace Go.Proofs.Ytofhdaeeiienfaa.spanWitness
open Go.ChangeShapes Go.WideShapes Go.ChangeAt Go.RowKit
set_option linter.unusedVariables false

theorem own : ownKnob Try.prog.godebug = none := by kernel_rfl
theorem laidOut : laidOutB Try.prog = true := by kernel_rfl
theorem cells5 : Try.prog.cellsOf 5 = 1 := by kernel_rfl
theorem bytes5 : Try.prog.bytesOf 5 = 1 := by kernel_rfl
set_option maxRecDepth 100000 in
theorem lifted (os : Os) (started : os.Started) (H : Type) (enc : TypeId × Value → H) :
    ReturnsInHanded {} Try.checked os 6 .any (Rows.spanWitnessSpec.pre6 enc Try.prog Try.f6 Rows.spanWitnessRow.domain false) (Rows.spanWitnessSpec.post enc Try.prog Try.f6 false true false false) := by
  refine law_handed (C := Try.checked) own started (by kernel_rfl) Try.func6
    (ChangeSpec.witness6 (enc := enc) (C := Try.checked) false ⟨#[], #[.slice none 0 0, .slice none 0 0, .slice none 0 0, .agg #[.int .u8 0, .int .u8 0, .int .u8 0]], []⟩ 8 (by kernel_rfl) (by kernel_rfl) (by kernel_rfl) (by kernel_rfl))
    laidOut ?_ (tb := 4) (by kernel_rfl) Try.underlying4 rfl ?_ ?_
  · intro t ht
    rw [Try.params6] at ht
    simp only [List.mem_cons, List.not_mem_nil, or_false] at ht
    rcases ht with rfl | rfl | rfl | rfl <;> exact ⟨by kernel_rfl, of_decide_eq_true (by kernel_rfl)⟩
  · intro ds hlen
    match ds, hlen with
    | [_, _, _, _], _ => rfl
  · intro W base args ds p hval hA hsz
    rw [Try.params6] at hA hval hsz
    obtain ⟨v0, vs0, d0, ds0, p0, q0, hargs, rfl, rfl, h0, r0⟩ := trodAll_cons hA
    obtain ⟨v1, vs1, d1, ds1, p1, q1, rfl, rfl, rfl, h1, r1⟩ := trodAll_cons r0
    obtain ⟨v2, vs2, d2, ds2, p2, q2, rfl, rfl, rfl, h2, r2⟩ := trodAll_cons r1
    obtain ⟨v3, vs3, d3, ds3, p3, q3, rfl, rfl, rfl, h3, r3⟩ := trodAll_cons r2
    obtain ⟨rfl, rfl, rfl⟩ := trodAll_nil r3
    obtain rfl : args = #[v0, v1, v2, v3] := by cases args; simp_all
    obtain ⟨A0, n0, c0, xs0, rfl, b0, l0, q0⟩ := arg_bytes Try.underlying23 Try.underlying5 cells5 bytes5 hsz (j := 0) rfl rfl (hval 0 23 v0 rfl rfl) h0
    obtain ⟨A1, n1, c1, xs1, rfl, b1, l1, q1⟩ := arg_bytes Try.underlying23 Try.underlying5 cells5 bytes5 hsz (j := 1) rfl rfl (hval 1 23 v1 rfl rfl) h1
    obtain ⟨A2, n2, c2, xs2, rfl, b2, l2, q2⟩ := arg_bytes Try.underlying23 Try.underlying5 cells5 bytes5 hsz (j := 2) rfl rfl (hval 2 23 v2 rfl rfl) h2
    obtain ⟨x3a, x3b, x3c, rfl, hx3a, hx3b, hx3c⟩ := arg_arr3 Try.underlying52 Try.underlying5 cells5 (by kernel_rfl) (hval 3 52 v3 rfl rfl) h3
    exact switness_any n0 n1 n2 c0 c1 c2 x3a x3b x3c A0 A1 A2 xs0 xs1 xs2 W b0 b1 b2 (by omega) (by omega) (by omega) hx3a hx3b hx3c

theorem over : Rows.spanWitnessRow.holds Try.pinned (OpenSpec.ofChange Rows.spanWitnessSpec) :=
  OpenClaim.holds_of_wide 6 Try.f6 rfl rfl rfl rfl rfl rfl rfl ⟨rfl, rfl, rfl, rfl, rfl⟩ rfl rfl rfl rfl rfl (by kernel_rfl) Try.func6 (by kernel_rfl)
    (of_decide_eq_true (by kernel_rfl)) (by unfold Func.isWrapper; first | (rw [if_pos (by decide +kernel)]; kernel_rfl) | (rw [if_neg (by decide +kernel)]; exact ⟨rfl, rfl⟩))
    (fun os started H enc _ => lifted os started H enc)

/-- The statement. -/
theorem proved : Rows.SpanWitnessSaid :=
  over
#print axioms proved
end Go.Proofs.Ytofhdaeeiienfaa.spanWitness
