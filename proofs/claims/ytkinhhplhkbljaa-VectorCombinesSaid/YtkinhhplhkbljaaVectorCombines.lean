/- For any slice of slices of bytes, any slice of bytes and any two ints, the law VectorCombines answers true: combinations and units come out as the document's own answers. -/
import Derived.Test.YtkinhhplhkbljaaRows
import Derived.Test.YtkinhhplhkbljaaFrame
import Derived.Test.YtkinhhplhkbljaaOpen
import Derived.Test.YtkinhhplhkbljaaCombines
import Derived.ProofKit
namespace Go.Proofs.Ytkinhhplhkbljaa.vectorCombines
open Go.ChangeShapes Go.WideShapes Go.ChangeAt Go.RowKit
set_option linter.unusedVariables false

theorem own : ownKnob Try.prog.godebug = none := by kernel_rfl
theorem laidOut : laidOutB Try.prog = true := by kernel_rfl
theorem cells5 : Try.prog.cellsOf 5 = 1 := by kernel_rfl
theorem bytes5 : Try.prog.bytesOf 5 = 1 := by kernel_rfl
theorem cells22 : Try.prog.cellsOf 22 = 1 := by kernel_rfl
theorem bytes22 : 1 ≤ Try.prog.bytesOf 22 := of_decide_eq_true (by kernel_rfl)
set_option maxRecDepth 100000 in
theorem lifted (os : Os) (started : os.Started) (H : Type) (enc : TypeId × Value → H) :
    ReturnsInHanded {} Try.checked os 4 .any (Rows.vectorCombinesSpec.pre6 enc Try.prog Try.f4 Rows.vectorCombinesRow.domain false) (Rows.vectorCombinesSpec.post enc Try.prog Try.f4 false true false false) := by
  refine law_handed (C := Try.checked) own started (by kernel_rfl) Try.func4
    (ChangeSpec.witness6 (enc := enc) (C := Try.checked) false ⟨#[], #[.slice none 0 0, .slice none 0 0, .int .i64 0, .int .i64 0], []⟩ 8 (by kernel_rfl) (by kernel_rfl) (by kernel_rfl) (by kernel_rfl))
    laidOut ?_ (tb := 4) (by kernel_rfl) Try.underlying4 rfl ?_ ?_
  · intro t ht
    rw [Try.params4] at ht
    simp only [List.mem_cons, List.not_mem_nil, or_false] at ht
    rcases ht with rfl | rfl | rfl | rfl <;> exact ⟨by kernel_rfl, of_decide_eq_true (by kernel_rfl)⟩
  · intro ds hlen
    match ds, hlen with
    | [_, _, _, _], _ => rfl
  · intro W base args ds p hval hA hsz
    rw [Try.params4] at hA hval hsz
    obtain ⟨v0, vs0, d0, ds0, p0, q0, hargs, rfl, rfl, h0, r0⟩ := trodAll_cons hA
    obtain ⟨v1, vs1, d1, ds1, p1, q1, rfl, rfl, rfl, h1, r1⟩ := trodAll_cons r0
    obtain ⟨v2, vs2, d2, ds2, p2, q2, rfl, rfl, rfl, h2, r2⟩ := trodAll_cons r1
    obtain ⟨v3, vs3, d3, ds3, p3, q3, rfl, rfl, rfl, h3, r3⟩ := trodAll_cons r2
    obtain ⟨rfl, rfl, rfl⟩ := trodAll_nil r3
    obtain rfl : args = #[v0, v1, v2, v3] := by cases args; simp_all
    obtain ⟨A0, n0, c0, rs0, rfl, b0, l0, q0⟩ := arg_rows Try.underlying41 Try.underlying22 cells22 bytes22 Try.underlying5 cells5 bytes5 hsz (j := 0) rfl rfl (hval 0 41 v0 rfl rfl) h0
    obtain ⟨A1, n1, c1, xs1, rfl, b1, l1, q1⟩ := arg_bytes Try.underlying22 Try.underlying5 cells5 bytes5 hsz (j := 1) rfl rfl (hval 1 22 v1 rfl rfl) h1
    obtain ⟨i2, rfl, rfl, rfl, w2⟩ := open_int Try.underlying3 (hval 2 3 v2 rfl rfl) h2
    obtain ⟨i3, rfl, rfl, rfl, w3⟩ := open_int Try.underlying3 (hval 3 3 v3 rfl rfl) h3
    exact combines_any n0 c0 n1 c1 i2 i3 A0 A1 rs0 xs1 W b0 b1 l0 l1 q0 q1

theorem over : Rows.vectorCombinesRow.holds Try.pinned (OpenSpec.ofChange Rows.vectorCombinesSpec) :=
  OpenClaim.holds_of_wide 4 Try.f4 rfl rfl rfl rfl rfl rfl rfl ⟨rfl, rfl, rfl, rfl, rfl⟩ rfl rfl rfl rfl rfl (by kernel_rfl) Try.func4 (by kernel_rfl)
    (of_decide_eq_true (by kernel_rfl)) (by unfold Func.isWrapper; first | (rw [if_pos (by decide +kernel)]; kernel_rfl) | (rw [if_neg (by decide +kernel)]; exact ⟨rfl, rfl⟩))
    (fun os started H enc _ => lifted os started H enc)

/-- The statement. -/
theorem proved : Rows.VectorCombinesSaid :=
  over
#print axioms proved
end Go.Proofs.Ytkinhhplhkbljaa.vectorCombines
