/- For any Trip, the law SinkOrder answers true: what is released, one behind the other, is a beginning of the stream, in order, each byte once; all that can be is released. -/
import Derived.Test.YtgelalbmhllccaaGreatRows
import Derived.Test.YtgelalbmhllccaaGreatQaa
import Derived.Test.YtgelalbmhllccaaGreatKor
import Derived.ProofKit
namespace Go.Proofs.YtgelalbmhllccaaGreat.sinkOrder
open Go.ChangeShapes Go.WideShapes Go.ChangeAt Go.RowKit
set_option linter.unusedVariables false

theorem own : ownKnob Tryz.prog.godebug = none := by kernel_rfl
theorem laidOut : laidOutB Tryz.prog = true := by kernel_rfl
theorem cells5 : Tryz.prog.cellsOf 5 = 1 := by kernel_rfl
theorem bytes5 : Tryz.prog.bytesOf 5 = 1 := by kernel_rfl
theorem cells22 : Tryz.prog.cellsOf 43 = 1 := by kernel_rfl
theorem bytes22 : 1 ≤ Tryz.prog.bytesOf 43 := of_decide_eq_true (by kernel_rfl)
set_option maxRecDepth 100000 in
theorem lifted (os : Os) (started : os.Started) (H : Type) (enc : TypeId × Value → H) :
    ReturnsInHanded {} Tryz.checked os 4 .any (Rows.sinkOrderSpec.pre6 enc Tryz.prog Tryz.f4 Rows.sinkOrderRow.domain false) (Rows.sinkOrderSpec.post enc Tryz.prog Tryz.f4 false true false false) := by
  refine law_handed (C := Tryz.checked) own started (by kernel_rfl) Tryz.func4
    (ChangeSpec.witness6 (enc := enc) (C := Tryz.checked) false ⟨#[], #[.agg #[.int .u8 0, .int .u8 0, .slice none 0 0, .slice none 0 0, .slice none 0 0, .slice none 0 0]], []⟩ 8 (by kernel_rfl) (by kernel_rfl) (by kernel_rfl) (by kernel_rfl))
    laidOut ?_ (tb := 4) (by kernel_rfl) Tryz.underlying4 rfl ?_ ?_
  · intro t ht
    rw [Tryz.params4] at ht
    simp only [List.mem_cons, List.not_mem_nil, or_false] at ht
    rcases ht with rfl <;> exact ⟨by kernel_rfl, of_decide_eq_true (by kernel_rfl)⟩
  · intro ds hlen
    match ds, hlen with
    | [_], _ => rfl
  · intro W base args ds p hval hA hsz
    rw [Tryz.params4] at hA hval hsz
    obtain ⟨v0, vs0, d0, ds0, p0, q0, hargs, rfl, rfl, h0, r0⟩ := trodAll_cons hA
    obtain ⟨rfl, rfl, rfl⟩ := trodAll_nil r0
    obtain rfl : args = #[v0] := by cases args; simp_all
    obtain ⟨G0, S0, na0, ca0, nb0, cb0, nc0, cc0, nd0, cd0, Aa0, Ab0, Ac0, Ad0, xa0, xb0, rc0, rfl, hG0, hS0, ba0, bb0, bc0, bd0, kd0⟩ := arg_trip Tryz.underlying65 (by kernel_rfl) (by kernel_rfl) rfl rfl rfl rfl rfl rfl Tryz.underlying40 Tryz.underlying43 cells22 bytes22 Tryz.underlying5 cells5 bytes5 Tryz.underlying63 Tryz.underlying4 (by kernel_rfl) hsz (j := 0) rfl rfl (hval 0 65 v0 rfl rfl) h0
    exact korder_any G0 S0 na0 ca0 nb0 cb0 nc0 cc0 nd0 cd0 Aa0 Ab0 Ac0 Ad0 xa0 xb0 rc0 W hG0 hS0 ba0 bb0 bc0 bd0 kd0

theorem over : Rows.sinkOrderRow.holds Tryz.pinned (OpenSpec.ofChange Rows.sinkOrderSpec) :=
  OpenClaim.holds_of_wide 4 Tryz.f4 rfl rfl rfl rfl rfl rfl rfl ⟨rfl, rfl, rfl, rfl, rfl⟩ rfl rfl rfl rfl rfl (by kernel_rfl) Tryz.func4 (by kernel_rfl)
    (of_decide_eq_true (by kernel_rfl)) (by unfold Func.isWrapper; first | (rw [if_pos (by decide +kernel)]; kernel_rfl) | (rw [if_neg (by decide +kernel)]; exact ⟨rfl, rfl⟩))
    (fun os started H enc _ => lifted os started H enc)

/-- The statement. -/
theorem proved : Rows.SinkOrderSaid :=
  over
#print axioms proved
end Go.Proofs.YtgelalbmhllccaaGreat.sinkOrder
