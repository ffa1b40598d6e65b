/- The chapter's rows, none, limits: the closed law RelayKnown answers true. -/
import Derived.Test.YtcjjhblgejkkeaaRows
import Derived.Test.YtcjjhblgejkkeaaFrame
import Derived.Test.YtcjjhblgejkkeaaOpen
import Derived.Test.YtcjjhblgejkkeaaRkn
import Derived.ProofKit
namespace Go.Proofs.Ytcjjhblgejkkeaa.relayKnown
open Go.ChangeShapes Go.WideShapes Go.ChangeAt Go.RowKit
set_option linter.unusedVariables false

theorem own : ownKnob Try.prog.godebug = none := by kernel_rfl
theorem laidOut : laidOutB Try.prog = true := by kernel_rfl
set_option maxRecDepth 100000 in
theorem lifted (os : Os) (started : os.Started) (H : Type) (enc : TypeId × Value → H) :
    ReturnsInHanded {} Try.checked os 6 .any (Rows.relayKnownSpec.pre6 enc Try.prog Try.f6 Rows.relayKnownRow.domain false) (Rows.relayKnownSpec.post enc Try.prog Try.f6 false true false false) := by
  refine law_handed (C := Try.checked) own started (by kernel_rfl) Try.func6
    (ChangeSpec.witness6 (enc := enc) (C := Try.checked) false ⟨#[], #[], []⟩ 8 (by kernel_rfl) (by kernel_rfl) (by kernel_rfl) (by kernel_rfl))
    laidOut ?_ (tb := 4) (by kernel_rfl) Try.underlying4 rfl ?_ ?_
  · intro t ht
    rw [Try.params6] at ht
    exact absurd ht (by simp)
  · intro ds hlen
    match ds, hlen with
    | [], _ => rfl
  · intro W base args ds p hval hA hsz
    rw [Try.params6] at hA hval hsz
    obtain ⟨hargs, rfl, rfl⟩ := trodAll_nil hA
    obtain rfl : args = #[] := by cases args; simp_all
    exact rknown_any W

theorem over : Rows.relayKnownRow.holds Try.pinned (OpenSpec.ofChange Rows.relayKnownSpec) :=
  OpenClaim.holds_of_wide 6 Try.f6 rfl rfl rfl rfl rfl rfl rfl ⟨rfl, rfl, rfl, rfl, rfl⟩ rfl rfl rfl rfl rfl (by kernel_rfl) Try.func6 (by kernel_rfl)
    (of_decide_eq_true (by kernel_rfl)) (by unfold Func.isWrapper; first | (rw [if_pos (by decide +kernel)]; kernel_rfl) | (rw [if_neg (by decide +kernel)]; exact ⟨rfl, rfl⟩))
    (fun os started H enc _ => lifted os started H enc)

/-- The statement. -/
theorem proved : Rows.RelayKnownSaid :=
  over
#print axioms proved
end Go.Proofs.Ytcjjhblgejkkeaa.relayKnown
