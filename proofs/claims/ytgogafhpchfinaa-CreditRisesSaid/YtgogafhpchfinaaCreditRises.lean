/- For any slice of numbers of 64 bits, the law CreditRises answers true: in one life of both nothing falls: what is granted, used, seen. -/
import Derived.Test.YtgogafhpchfinaaRows
import Derived.Test.YtgogafhpchfinaaQaa
import Derived.Test.YtgogafhpchfinaaCri
import Derived.ProofKit
namespace Go.Proofs.Ytgogafhpchfinaa.creditRises
open Go.ChangeShapes Go.WideShapes Go.ChangeAt Go.RowKit
set_option linter.unusedVariables false

theorem own : ownKnob Try.prog.godebug = none := by kernel_rfl
theorem laidOut : laidOutB Try.prog = true := by kernel_rfl
set_option maxRecDepth 100000 in
theorem lifted (os : Os) (started : os.Started) (H : Type) (enc : TypeId × Value → H) :
    ReturnsInHanded {} Try.checked os 6 .any (Rows.creditRisesSpec.pre6 enc Try.prog Try.f6 Rows.creditRisesRow.domain false) (Rows.creditRisesSpec.post enc Try.prog Try.f6 false true false false) := by
  refine law_handed (C := Try.checked) own started (by kernel_rfl) Try.func6
    (ChangeSpec.witness6 (enc := enc) (C := Try.checked) false ⟨#[], #[.slice none 0 0], []⟩ 8 (by kernel_rfl) (by kernel_rfl) (by kernel_rfl) (by kernel_rfl))
    laidOut ?_ (tb := 4) (by kernel_rfl) Try.underlying4 rfl ?_ ?_
  · intro t ht
    rw [Try.params6] at ht
    simp only [List.mem_cons, List.not_mem_nil, or_false] at ht
    rcases ht with rfl <;> exact ⟨by kernel_rfl, of_decide_eq_true (by kernel_rfl)⟩
  · intro ds hlen
    match ds, hlen with
    | [_], _ => rfl
  · intro W base args ds p hval hA hsz
    rw [Try.params6] at hA hval hsz
    obtain ⟨v0, vs0, d0, ds0, p0, q0, hargs, rfl, rfl, h0, r0⟩ := trodAll_cons hA
    obtain ⟨rfl, rfl, rfl⟩ := trodAll_nil r0
    obtain rfl : args = #[v0] := by cases args; simp_all
    obtain ⟨A0, n0, c0, l0, rfl, b0, z0, q0⟩ := arg_us Try.underlying68 Try.underlying22 (by kernel_rfl) (of_decide_eq_true (by kernel_rfl)) hsz (j := 0) rfl rfl (hval 0 68 v0 rfl rfl) h0
    exact crises n0 c0 A0 l0 W b0 q0 z0

theorem over : Rows.creditRisesRow.holds Try.pinned (OpenSpec.ofChange Rows.creditRisesSpec) :=
  OpenClaim.holds_of_wide 6 Try.f6 rfl rfl rfl rfl rfl rfl rfl ⟨rfl, rfl, rfl, rfl, rfl⟩ rfl rfl rfl rfl rfl (by kernel_rfl) Try.func6 (by kernel_rfl)
    (of_decide_eq_true (by kernel_rfl)) (by unfold Func.isWrapper; first | (rw [if_pos (by decide +kernel)]; kernel_rfl) | (rw [if_neg (by decide +kernel)]; exact ⟨rfl, rfl⟩))
    (fun os started H enc _ => lifted os started H enc)

/-- The statement. -/
theorem proved : Rows.CreditRisesSaid :=
  over
#print axioms proved
end Go.Proofs.Ytgogafhpchfinaa.creditRises
