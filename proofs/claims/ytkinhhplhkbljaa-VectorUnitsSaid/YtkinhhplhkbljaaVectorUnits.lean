/- For any slice of bytes, the law VectorUnits answers true: a vector is the units, each multiplied with its number. -/
import Derived.Test.YtkinhhplhkbljaaRows
import Derived.Test.YtkinhhplhkbljaaFrame
import Derived.Test.YtkinhhplhkbljaaOpen
import Derived.Test.YtkinhhplhkbljaaUnits
import Derived.ProofKit
namespace Go.Proofs.Ytkinhhplhkbljaa.vectorUnits
open Go.ChangeShapes Go.WideShapes Go.ChangeAt Go.RowKit
set_option linter.unusedVariables false

theorem own : ownKnob Try.prog.godebug = none := by kernel_rfl
theorem laidOut : laidOutB Try.prog = true := by kernel_rfl
theorem cells5 : Try.prog.cellsOf 5 = 1 := by kernel_rfl
theorem bytes5 : Try.prog.bytesOf 5 = 1 := by kernel_rfl
set_option maxRecDepth 100000 in
theorem lifted (os : Os) (started : os.Started) (H : Type) (enc : TypeId × Value → H) :
    ReturnsInHanded {} Try.checked os 7 .any (Rows.vectorUnitsSpec.pre6 enc Try.prog Try.f7 Rows.vectorUnitsRow.domain false) (Rows.vectorUnitsSpec.post enc Try.prog Try.f7 false true false false) := by
  refine law_handed (C := Try.checked) own started (by kernel_rfl) Try.func7
    (ChangeSpec.witness6 (enc := enc) (C := Try.checked) false ⟨#[], #[.slice none 0 0], []⟩ 8 (by kernel_rfl) (by kernel_rfl) (by kernel_rfl) (by kernel_rfl))
    laidOut ?_ (tb := 4) (by kernel_rfl) Try.underlying4 rfl ?_ ?_
  · intro t ht
    rw [Try.params7] at ht
    simp only [List.mem_cons, List.not_mem_nil, or_false] at ht
    rcases ht with rfl <;> exact ⟨by kernel_rfl, of_decide_eq_true (by kernel_rfl)⟩
  · intro ds hlen
    match ds, hlen with
    | [_], _ => rfl
  · intro W base args ds p hval hA hsz
    rw [Try.params7] at hA hval hsz
    obtain ⟨v0, vs0, d0, ds0, p0, q0, hargs, rfl, rfl, h0, r0⟩ := trodAll_cons hA
    obtain ⟨rfl, rfl, rfl⟩ := trodAll_nil r0
    obtain rfl : args = #[v0] := by cases args; simp_all
    obtain ⟨A0, n0, c0, xs0, rfl, b0, l0, q0⟩ := arg_bytes Try.underlying22 Try.underlying5 cells5 bytes5 hsz (j := 0) rfl rfl (hval 0 22 v0 rfl rfl) h0
    exact units_any n0 c0 A0 xs0 W b0 l0 q0

theorem over : Rows.vectorUnitsRow.holds Try.pinned (OpenSpec.ofChange Rows.vectorUnitsSpec) :=
  OpenClaim.holds_of_wide 7 Try.f7 rfl rfl rfl rfl rfl rfl rfl ⟨rfl, rfl, rfl, rfl, rfl⟩ rfl rfl rfl rfl rfl (by kernel_rfl) Try.func7 (by kernel_rfl)
    (of_decide_eq_true (by kernel_rfl)) (by unfold Func.isWrapper; first | (rw [if_pos (by decide +kernel)]; kernel_rfl) | (rw [if_neg (by decide +kernel)]; exact ⟨rfl, rfl⟩))
    (fun os started H enc _ => lifted os started H enc)

/-- The statement. -/
theorem proved : Rows.VectorUnitsSaid :=
  over
#print axioms proved
end Go.Proofs.Ytkinhhplhkbljaa.vectorUnits
