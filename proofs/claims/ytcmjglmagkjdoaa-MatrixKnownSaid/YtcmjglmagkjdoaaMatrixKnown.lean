/- The chapter's rows, none, no columns, limits: the closed law MatrixKnown answers true. -/
import Derived.Test.YtcmjglmagkjdoaaRows
import Derived.Test.YtcmjglmagkjdoaaFrame
import Derived.Test.YtcmjglmagkjdoaaOpen
import Derived.Test.YtcmjglmagkjdoaaMknown
import Derived.ProofKit
namespace Go.Proofs.Ytcmjglmagkjdoaa.matrixKnown
open Go.ChangeShapes Go.WideShapes Go.ChangeAt Go.RowKit
set_option linter.unusedVariables false

theorem own : ownKnob Try.prog.godebug = none := by kernel_rfl
theorem laidOut : laidOutB Try.prog = true := by kernel_rfl
set_option maxRecDepth 100000 in
theorem lifted (os : Os) (started : os.Started) (H : Type) (enc : TypeId × Value → H) :
    ReturnsInHanded {} Try.checked os 9 .any (Rows.matrixKnownSpec.pre6 enc Try.prog Try.f9 Rows.matrixKnownRow.domain false) (Rows.matrixKnownSpec.post enc Try.prog Try.f9 false true false false) := by
  refine law_handed (C := Try.checked) own started (by kernel_rfl) Try.func9
    (ChangeSpec.witness6 (enc := enc) (C := Try.checked) false ⟨#[], #[], []⟩ 8 (by kernel_rfl) (by kernel_rfl) (by kernel_rfl) (by kernel_rfl))
    laidOut ?_ (tb := 4) (by kernel_rfl) Try.underlying4 rfl ?_ ?_
  · intro t ht
    rw [Try.params9] at ht
    exact absurd ht (by simp)
  · intro ds hlen
    match ds, hlen with
    | [], _ => rfl
  · intro W base args ds p hval hA hsz
    rw [Try.params9] at hA hval hsz
    obtain ⟨hargs, rfl, rfl⟩ := trodAll_nil hA
    obtain rfl : args = #[] := by cases args; simp_all
    exact known_any W

theorem over : Rows.matrixKnownRow.holds Try.pinned (OpenSpec.ofChange Rows.matrixKnownSpec) :=
  OpenClaim.holds_of_wide 9 Try.f9 rfl rfl rfl rfl rfl rfl rfl ⟨rfl, rfl, rfl, rfl, rfl⟩ rfl rfl rfl rfl rfl (by kernel_rfl) Try.func9 (by kernel_rfl)
    (of_decide_eq_true (by kernel_rfl)) (by unfold Func.isWrapper; first | (rw [if_pos (by decide +kernel)]; kernel_rfl) | (rw [if_neg (by decide +kernel)]; exact ⟨rfl, rfl⟩))
    (fun os started H enc _ => lifted os started H enc)

/-- The statement. -/
theorem proved : Rows.MatrixKnownSaid :=
  over
#print axioms proved
end Go.Proofs.Ytcmjglmagkjdoaa.matrixKnown
