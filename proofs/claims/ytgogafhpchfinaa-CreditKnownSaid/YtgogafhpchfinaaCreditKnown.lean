/- The chapter's rows, none, the zero value, limits: the closed law CreditKnown answers true. -/
import Derived.Test.YtgogafhpchfinaaRows
import Derived.Test.YtgogafhpchfinaaQaa
import Derived.Test.YtgogafhpchfinaaCkn
import Derived.ProofKit
namespace Go.Proofs.Ytgogafhpchfinaa.creditKnown
open Go.ChangeShapes Go.WideShapes Go.ChangeAt Go.RowKit
set_option linter.unusedVariables false

theorem own : ownKnob Try.prog.godebug = none := by kernel_rfl
theorem laidOut : laidOutB Try.prog = true := by kernel_rfl
set_option maxRecDepth 100000 in
theorem lifted (os : Os) (started : os.Started) (H : Type) (enc : TypeId × Value → H) :
    ReturnsInHanded {} Try.checked os 8 .any (Rows.creditKnownSpec.pre6 enc Try.prog Try.f8 Rows.creditKnownRow.domain false) (Rows.creditKnownSpec.post enc Try.prog Try.f8 false true false false) := by
  refine law_handed (C := Try.checked) own started (by kernel_rfl) Try.func8
    (ChangeSpec.witness6 (enc := enc) (C := Try.checked) false ⟨#[], #[], []⟩ 8 (by kernel_rfl) (by kernel_rfl) (by kernel_rfl) (by kernel_rfl))
    laidOut ?_ (tb := 4) (by kernel_rfl) Try.underlying4 rfl ?_ ?_
  · intro t ht
    rw [Try.params8] at ht
    exact absurd ht (by simp)
  · intro ds hlen
    match ds, hlen with
    | [], _ => rfl
  · intro W base args ds p hval hA hsz
    rw [Try.params8] at hA hval hsz
    obtain ⟨hargs, rfl, rfl⟩ := trodAll_nil hA
    obtain rfl : args = #[] := by cases args; simp_all
    exact cknown W

theorem over : Rows.creditKnownRow.holds Try.pinned (OpenSpec.ofChange Rows.creditKnownSpec) :=
  OpenClaim.holds_of_wide 8 Try.f8 rfl rfl rfl rfl rfl rfl rfl ⟨rfl, rfl, rfl, rfl, rfl⟩ rfl rfl rfl rfl rfl (by kernel_rfl) Try.func8 (by kernel_rfl)
    (of_decide_eq_true (by kernel_rfl)) (by unfold Func.isWrapper; first | (rw [if_pos (by decide +kernel)]; kernel_rfl) | (rw [if_neg (by decide +kernel)]; exact ⟨rfl, rfl⟩))
    (fun os started H enc _ => lifted os started H enc)

/-- The statement. -/
theorem proved : Rows.CreditKnownSaid :=
  over
#print axioms proved
end Go.Proofs.Ytgogafhpchfinaa.creditKnown
