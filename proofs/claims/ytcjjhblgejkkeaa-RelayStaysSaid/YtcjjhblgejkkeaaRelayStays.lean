/- For any bytes, three bytes, slice of slices of bytes and two slices of bytes, the law RelayStays answers true: a Move takes away what is outside and nothing else, generations do not stand in each other's way, what there is stays within the bounds. -/
import Derived.Test.YtcjjhblgejkkeaaRows
import Derived.Test.YtcjjhblgejkkeaaFrame
import Derived.Test.YtcjjhblgejkkeaaOpen
import Derived.Test.YtcjjhblgejkkeaaArr
import Derived.Test.YtcjjhblgejkkeaaArr3
import Derived.Test.YtcjjhblgejkkeaaRstays
import Derived.ProofKit
namespace Go.Proofs.Ytcjjhblgejkkeaa.relayStays
open Go.ChangeShapes Go.WideShapes Go.ChangeAt Go.RowKit
set_option linter.unusedVariables false

theorem own : ownKnob Try.prog.godebug = none := by kernel_rfl
theorem laidOut : laidOutB Try.prog = true := by kernel_rfl
theorem cells5 : Try.prog.cellsOf 5 = 1 := by kernel_rfl
theorem bytes5 : Try.prog.bytesOf 5 = 1 := by kernel_rfl
theorem cells22 : Try.prog.cellsOf 22 = 1 := by kernel_rfl
theorem bytes22 : 1 ≤ Try.prog.bytesOf 22 := of_decide_eq_true (by kernel_rfl)
set_option maxRecDepth 100000 in
theorem lifted (os : Os) (started : os.Started) (H : Type) (enc : TypeId × Value → H) :
    ReturnsInHanded {} Try.checked os 4 .any (Rows.relayStaysSpec.pre6 enc Try.prog Try.f4 Rows.relayStaysRow.domain false) (Rows.relayStaysSpec.post enc Try.prog Try.f4 false true false false) := by
  refine law_handed (C := Try.checked) own started (by kernel_rfl) Try.func4
    (ChangeSpec.witness6 (enc := enc) (C := Try.checked) false ⟨#[], #[.slice none 0 0, .agg #[.int .u8 0, .int .u8 0, .int .u8 0], .slice none 0 0, .slice none 0 0, .slice none 0 0], []⟩ 8 (by kernel_rfl) (by kernel_rfl) (by kernel_rfl) (by kernel_rfl))
    laidOut ?_ (tb := 4) (by kernel_rfl) Try.underlying4 rfl ?_ ?_
  · intro t ht
    rw [Try.params4] at ht
    simp only [List.mem_cons, List.not_mem_nil, or_false] at ht
    rcases ht with rfl | rfl | rfl | rfl | rfl <;> exact ⟨by kernel_rfl, of_decide_eq_true (by kernel_rfl)⟩
  · intro ds hlen
    match ds, hlen with
    | [_, _, _, _, _], _ => rfl
  · intro W base args ds p hval hA hsz
    rw [Try.params4] at hA hval hsz
    obtain ⟨v0, vs0, d0, ds0, p0, q0, hargs, rfl, rfl, h0, r0⟩ := trodAll_cons hA
    obtain ⟨v1, vs1, d1, ds1, p1, q1, rfl, rfl, rfl, h1, r1⟩ := trodAll_cons r0
    obtain ⟨v2, vs2, d2, ds2, p2, q2, rfl, rfl, rfl, h2, r2⟩ := trodAll_cons r1
    obtain ⟨v3, vs3, d3, ds3, p3, q3, rfl, rfl, rfl, h3, r3⟩ := trodAll_cons r2
    obtain ⟨v4, vs4, d4, ds4, p4, q4, rfl, rfl, rfl, h4, r4⟩ := trodAll_cons r3
    obtain ⟨rfl, rfl, rfl⟩ := trodAll_nil r4
    obtain rfl : args = #[v0, v1, v2, v3, v4] := by cases args; simp_all
    obtain ⟨A0, n0, c0, xs0, rfl, b0, l0, q0⟩ := arg_bytes Try.underlying22 Try.underlying5 cells5 bytes5 hsz (j := 0) rfl rfl (hval 0 22 v0 rfl rfl) h0
    obtain ⟨x1a, x1b, x1c, rfl, hx1a, hx1b, hx1c⟩ := arg_arr3 Try.underlying45 Try.underlying5 cells5 (by kernel_rfl) (hval 1 45 v1 rfl rfl) h1
    obtain ⟨A2, n2, c2, rs2, rfl, b2, l2, q2⟩ := arg_rows Try.underlying24 Try.underlying22 cells22 bytes22 Try.underlying5 cells5 bytes5 hsz (j := 2) rfl rfl (hval 2 24 v2 rfl rfl) h2
    obtain ⟨A3, n3, c3, xs3, rfl, b3, l3, q3⟩ := arg_bytes Try.underlying22 Try.underlying5 cells5 bytes5 hsz (j := 3) rfl rfl (hval 3 22 v3 rfl rfl) h3
    obtain ⟨A4, n4, c4, xs4, rfl, b4, l4, q4⟩ := arg_bytes Try.underlying22 Try.underlying5 cells5 bytes5 hsz (j := 4) rfl rfl (hval 4 22 v4 rfl rfl) h4
    exact rstays_any n0 n2 n3 n4 c0 c2 c3 c4 x1a x1b x1c A0 A2 A3 A4 xs0 xs3 xs4 rs2 W b0 b2 b3 b4 (Nat.le_trans l0 (by decide)) l2 (Nat.le_trans l3 (by decide)) (Nat.le_trans l4 (by decide)) hx1a hx1b hx1c

theorem over : Rows.relayStaysRow.holds Try.pinned (OpenSpec.ofChange Rows.relayStaysSpec) :=
  OpenClaim.holds_of_wide 4 Try.f4 rfl rfl rfl rfl rfl rfl rfl ⟨rfl, rfl, rfl, rfl, rfl⟩ rfl rfl rfl rfl rfl (by kernel_rfl) Try.func4 (by kernel_rfl)
    (of_decide_eq_true (by kernel_rfl)) (by unfold Func.isWrapper; first | (rw [if_pos (by decide +kernel)]; kernel_rfl) | (rw [if_neg (by decide +kernel)]; exact ⟨rfl, rfl⟩))
    (fun os started H enc _ => lifted os started H enc)

/-- The statement. -/
theorem proved : Rows.RelayStaysSaid :=
  over
#print axioms proved
end Go.Proofs.Ytcjjhblgejkkeaa.relayStays
