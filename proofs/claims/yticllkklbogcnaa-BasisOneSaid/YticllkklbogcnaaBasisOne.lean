/- For any Mix and any slice of bytes, the law BasisOne answers true: rows of one span have one basis. -/
import Derived.Test.YticllkklbogcnaaRows
import Derived.Test.YticllkklbogcnaaFrame
import Derived.Test.YticllkklbogcnaaOpen
import Derived.Test.YticllkklbogcnaaMix
import Derived.Test.YticllkklbogcnaaBone
import Derived.ProofKit
namespace Go.Proofs.Yticllkklbogcnaa.basisOne
open Go.ChangeShapes Go.WideShapes Go.ChangeAt Go.RowKit
set_option linter.unusedVariables false

theorem own : ownKnob Try.prog.godebug = none := by kernel_rfl
theorem laidOut : laidOutB Try.prog = true := by kernel_rfl
theorem cells5 : Try.prog.cellsOf 5 = 1 := by kernel_rfl
theorem bytes5 : Try.prog.bytesOf 5 = 1 := by kernel_rfl
theorem cells22 : Try.prog.cellsOf 31 = 1 := by kernel_rfl
theorem bytes22 : 1 ≤ Try.prog.bytesOf 31 := of_decide_eq_true (by kernel_rfl)
set_option maxRecDepth 100000 in
theorem lifted (os : Os) (started : os.Started) (H : Type) (enc : TypeId × Value → H) :
    ReturnsInHanded {} Try.checked os 5 .any (Rows.basisOneSpec.pre6 enc Try.prog Try.f5 Rows.basisOneRow.domain false) (Rows.basisOneSpec.post enc Try.prog Try.f5 false true false false) := by
  refine law_handed (C := Try.checked) own started (by kernel_rfl) Try.func5
    (ChangeSpec.witness6 (enc := enc) (C := Try.checked) false ⟨#[], #[.agg #[.int .u8 0, .int .u8 0, .slice none 0 0, .slice none 0 0, .slice none 0 0], .slice none 0 0], []⟩ 8 (by kernel_rfl) (by kernel_rfl) (by kernel_rfl) (by kernel_rfl))
    laidOut ?_ (tb := 4) (by kernel_rfl) Try.underlying4 rfl ?_ ?_
  · intro t ht
    rw [Try.params5] at ht
    simp only [List.mem_cons, List.not_mem_nil, or_false] at ht
    rcases ht with rfl | rfl <;> exact ⟨by kernel_rfl, of_decide_eq_true (by kernel_rfl)⟩
  · intro ds hlen
    match ds, hlen with
    | [_, _], _ => rfl
  · intro W base args ds p hval hA hsz
    rw [Try.params5] at hA hval hsz
    obtain ⟨v0, vs0, d0, ds0, p0, q0, hargs, rfl, rfl, h0, r0⟩ := trodAll_cons hA
    obtain ⟨v1, vs1, d1, ds1, p1, q1, rfl, rfl, rfl, h1, r1⟩ := trodAll_cons r0
    obtain ⟨rfl, rfl, rfl⟩ := trodAll_nil r1
    obtain rfl : args = #[v0, v1] := by cases args; simp_all
    obtain ⟨G0, S0, na0, ca0, nb0, cb0, nc0, cc0, Aa0, Ab0, Ac0, ra0, rb0, xc0, rfl, hG0, hS0, ba0, la0, bb0, lb0, bc0, lc0⟩ := arg_mix Try.underlying60 (by kernel_rfl) (by kernel_rfl) rfl rfl rfl rfl rfl Try.underlying48 Try.underlying31 cells22 bytes22 Try.underlying5 cells5 bytes5 hsz (j := 0) rfl rfl (hval 0 60 v0 rfl rfl) h0
    obtain ⟨A1, n1, c1, xs1, rfl, b1, l1, q1⟩ := arg_bytes Try.underlying31 Try.underlying5 cells5 bytes5 hsz (j := 1) rfl rfl (hval 1 31 v1 rfl rfl) h1
    exact one_any G0 S0 na0 ca0 nb0 cb0 nc0 cc0 Aa0 Ab0 Ac0 ra0 rb0 W ba0 bb0 la0 lb0 hG0 hS0 xc0 bc0 lc0 n1 c1 A1 xs1 b1 (by omega)

theorem over : Rows.basisOneRow.holds Try.pinned (OpenSpec.ofChange Rows.basisOneSpec) :=
  OpenClaim.holds_of_wide 5 Try.f5 rfl rfl rfl rfl rfl rfl rfl ⟨rfl, rfl, rfl, rfl, rfl⟩ rfl rfl rfl rfl rfl (by kernel_rfl) Try.func5 (by kernel_rfl)
    (of_decide_eq_true (by kernel_rfl)) (by unfold Func.isWrapper; first | (rw [if_pos (by decide +kernel)]; kernel_rfl) | (rw [if_neg (by decide +kernel)]; exact ⟨rfl, rfl⟩))
    (fun os started H enc _ => lifted os started H enc)

/-- The statement. -/
theorem proved : Rows.BasisOneSaid :=
  over
#print axioms proved
end Go.Proofs.Yticllkklbogcnaa.basisOne
