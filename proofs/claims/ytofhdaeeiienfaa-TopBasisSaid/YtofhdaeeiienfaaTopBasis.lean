/- For any slice of bytes, any two bytes for sizes, any slice of slices of bytes and any slice of bytes, the law TopBasis answers true: rows taken one by one are what the matrix of all of them is, reduced; what is new lies outside the span so far; what is solved is the payloads, multiplied with the inverse of the coefficients. -/
import Derived.Test.YtofhdaeeiienfaaRows
import Derived.Test.YtofhdaeeiienfaaFrame
import Derived.Test.YtofhdaeeiienfaaOpen
import Derived.Test.YtofhdaeeiienfaaArr
import Derived.Test.YtofhdaeeiienfaaTopb
import Derived.ProofKit
namespace Go.Proofs.Ytofhdaeeiienfaa.topBasis
open Go.ChangeShapes Go.WideShapes Go.ChangeAt Go.RowKit
set_option linter.unusedVariables false

theorem own : ownKnob Try.prog.godebug = none := by kernel_rfl
theorem laidOut : laidOutB Try.prog = true := by kernel_rfl
theorem cells5 : Try.prog.cellsOf 5 = 1 := by kernel_rfl
theorem bytes5 : Try.prog.bytesOf 5 = 1 := by kernel_rfl
theorem cells22 : Try.prog.cellsOf 23 = 1 := by kernel_rfl
theorem bytes22 : 1 ≤ Try.prog.bytesOf 23 := of_decide_eq_true (by kernel_rfl)
set_option maxRecDepth 100000 in
theorem lifted (os : Os) (started : os.Started) (H : Type) (enc : TypeId × Value → H) :
    ReturnsInHanded {} Try.checked os 9 .any (Rows.topBasisSpec.pre6 enc Try.prog Try.f9 Rows.topBasisRow.domain false) (Rows.topBasisSpec.post enc Try.prog Try.f9 false true false false) := by
  refine law_handed (C := Try.checked) own started (by kernel_rfl) Try.func9
    (ChangeSpec.witness6 (enc := enc) (C := Try.checked) false ⟨#[], #[.slice none 0 0, .agg #[.int .u8 0, .int .u8 0], .slice none 0 0, .slice none 0 0], []⟩ 8 (by kernel_rfl) (by kernel_rfl) (by kernel_rfl) (by kernel_rfl))
    laidOut ?_ (tb := 4) (by kernel_rfl) Try.underlying4 rfl ?_ ?_
  · intro t ht
    rw [Try.params9] at ht
    simp only [List.mem_cons, List.not_mem_nil, or_false] at ht
    rcases ht with rfl | rfl | rfl | rfl <;> exact ⟨by kernel_rfl, of_decide_eq_true (by kernel_rfl)⟩
  · intro ds hlen
    match ds, hlen with
    | [_, _, _, _], _ => rfl
  · intro W base args ds p hval hA hsz
    rw [Try.params9] at hA hval hsz
    obtain ⟨v0, vs0, d0, ds0, p0, q0, hargs, rfl, rfl, h0, r0⟩ := trodAll_cons hA
    obtain ⟨v1, vs1, d1, ds1, p1, q1, rfl, rfl, rfl, h1, r1⟩ := trodAll_cons r0
    obtain ⟨v2, vs2, d2, ds2, p2, q2, rfl, rfl, rfl, h2, r2⟩ := trodAll_cons r1
    obtain ⟨v3, vs3, d3, ds3, p3, q3, rfl, rfl, rfl, h3, r3⟩ := trodAll_cons r2
    obtain ⟨rfl, rfl, rfl⟩ := trodAll_nil r3
    obtain rfl : args = #[v0, v1, v2, v3] := by cases args; simp_all
    obtain ⟨A0, n0, c0, xs0, rfl, b0, l0, q0⟩ := arg_bytes Try.underlying23 Try.underlying5 cells5 bytes5 hsz (j := 0) rfl rfl (hval 0 23 v0 rfl rfl) h0
    obtain ⟨x1a, x1b, rfl, hx1a, hx1b⟩ := arg_arr2 Try.underlying56 Try.underlying5 cells5 (by kernel_rfl) (hval 1 56 v1 rfl rfl) h1
    obtain ⟨A2, n2, c2, rs2, rfl, b2, l2, q2⟩ := arg_rows Try.underlying22 Try.underlying23 cells22 bytes22 Try.underlying5 cells5 bytes5 hsz (j := 2) rfl rfl (hval 2 22 v2 rfl rfl) h2
    obtain ⟨A3, n3, c3, xs3, rfl, b3, l3, q3⟩ := arg_bytes Try.underlying23 Try.underlying5 cells5 bytes5 hsz (j := 3) rfl rfl (hval 3 23 v3 rfl rfl) h3
    exact topbasis_any n0 n2 n3 c0 c2 c3 x1a x1b A0 A2 A3 xs0 xs3 rs2 W b0 b2 b3 (by omega) l2 (by omega) hx1a hx1b

theorem over : Rows.topBasisRow.holds Try.pinned (OpenSpec.ofChange Rows.topBasisSpec) :=
  OpenClaim.holds_of_wide 9 Try.f9 rfl rfl rfl rfl rfl rfl rfl ⟨rfl, rfl, rfl, rfl, rfl⟩ rfl rfl rfl rfl rfl (by kernel_rfl) Try.func9 (by kernel_rfl)
    (of_decide_eq_true (by kernel_rfl)) (by unfold Func.isWrapper; first | (rw [if_pos (by decide +kernel)]; kernel_rfl) | (rw [if_neg (by decide +kernel)]; exact ⟨rfl, rfl⟩))
    (fun os started H enc _ => lifted os started H enc)

/-- The statement. -/
theorem proved : Rows.TopBasisSaid :=
  over
#print axioms proved
end Go.Proofs.Ytofhdaeeiienfaa.topBasis
