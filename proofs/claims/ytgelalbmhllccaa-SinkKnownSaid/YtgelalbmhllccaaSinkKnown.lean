/- The chapter's examples, its errors, none: the closed law SinkKnown answers true. -/
import Derived.Test.YtgelalbmhllccaaRows
import Derived.Test.YtgelalbmhllccaaQaa
import Derived.Test.YtgelalbmhllccaaKkn
import Derived.ProofKit
namespace Go.Proofs.Ytgelalbmhllccaa.sinkKnown
open Go.ChangeShapes Go.WideShapes Go.ChangeAt Go.RowKit
set_option linter.unusedVariables false

theorem own : ownKnob Try.prog.godebug = none := by kernel_rfl
theorem laidOut : laidOutB Try.prog = true := by kernel_rfl
set_option maxRecDepth 100000 in
theorem lifted (os : Os) (started : os.Started) (H : Type) (enc : TypeId × Value → H) :
    ReturnsInHanded {} Try.checked os 3 .any (Rows.sinkKnownSpec.pre6 enc Try.prog Try.f3 Rows.sinkKnownRow.domain false) (Rows.sinkKnownSpec.post enc Try.prog Try.f3 false true false false) := by
  refine law_handed (C := Try.checked) own started (by kernel_rfl) Try.func3
    (ChangeSpec.witness6 (enc := enc) (C := Try.checked) false ⟨#[], #[], []⟩ 8 (by kernel_rfl) (by kernel_rfl) (by kernel_rfl) (by kernel_rfl))
    laidOut ?_ (tb := 4) (by kernel_rfl) Try.underlying4 rfl ?_ ?_
  · intro t ht
    rw [Try.params3] at ht
    exact absurd ht (by simp)
  · intro ds hlen
    match ds, hlen with
    | [], _ => rfl
  · intro W base args ds p hval hA hsz
    rw [Try.params3] at hA hval hsz
    obtain ⟨hargs, rfl, rfl⟩ := trodAll_nil hA
    obtain rfl : args = #[] := by cases args; simp_all
    exact sknown_any W

theorem over : Rows.sinkKnownRow.holds Try.pinned (OpenSpec.ofChange Rows.sinkKnownSpec) :=
  OpenClaim.holds_of_wide 3 Try.f3 rfl rfl rfl rfl rfl rfl rfl ⟨rfl, rfl, rfl, rfl, rfl⟩ rfl rfl rfl rfl rfl (by kernel_rfl) Try.func3 (by kernel_rfl)
    (of_decide_eq_true (by kernel_rfl)) (by unfold Func.isWrapper; first | (rw [if_pos (by decide +kernel)]; kernel_rfl) | (rw [if_neg (by decide +kernel)]; exact ⟨rfl, rfl⟩))
    (fun os started H enc _ => lifted os started H enc)

/-- The statement. -/
theorem proved : Rows.SinkKnownSaid :=
  over
#print axioms proved
end Go.Proofs.Ytgelalbmhllccaa.sinkKnown
