/- For any bytes, two bytes, slice of slices of bytes, bytes, and slice of slices of bytes, the law RelayHops answers true: over four relays in a row, what the last one took is true, each is of the span of the one ahead, and what any solves are the symbols. -/
import Derived.Test.YtcjjhblgejkkeaaGreatRows
import Derived.Test.YtcjjhblgejkkeaaGreatFrame
import Derived.Test.YtcjjhblgejkkeaaGreatOpen
import Derived.Test.YtcjjhblgejkkeaaGreatArr
import Derived.Test.YtcjjhblgejkkeaaGreatRhops
import Derived.ProofKit
namespace Go.Proofs.YtcjjhblgejkkeaaGreat.relayHops
open Go.ChangeShapes Go.WideShapes Go.ChangeAt Go.RowKit
set_option linter.unusedVariables false

theorem own : ownKnob Tryz.prog.godebug = none := by kernel_rfl
theorem laidOut : laidOutB Tryz.prog = true := by kernel_rfl
theorem cells5 : Tryz.prog.cellsOf 5 = 1 := by kernel_rfl
theorem bytes5 : Tryz.prog.bytesOf 5 = 1 := by kernel_rfl
theorem cells22 : Tryz.prog.cellsOf 32 = 1 := by kernel_rfl
theorem bytes22 : 1 ≤ Tryz.prog.bytesOf 32 := of_decide_eq_true (by kernel_rfl)
set_option maxRecDepth 100000 in
theorem lifted (os : Os) (started : os.Started) (H : Type) (enc : TypeId × Value → H) :
    ReturnsInHanded {} Tryz.checked os 5 .any (Rows.relayHopsSpec.pre6 enc Tryz.prog Tryz.f5 Rows.relayHopsRow.domain false) (Rows.relayHopsSpec.post enc Tryz.prog Tryz.f5 false true false false) := by
  refine law_handed (C := Tryz.checked) own started (by kernel_rfl) Tryz.func5
    (ChangeSpec.witness6 (enc := enc) (C := Tryz.checked) false ⟨#[], #[.slice none 0 0, .agg #[.int .u8 0, .int .u8 0], .slice none 0 0, .slice none 0 0, .slice none 0 0], []⟩ 8 (by kernel_rfl) (by kernel_rfl) (by kernel_rfl) (by kernel_rfl))
    laidOut ?_ (tb := 4) (by kernel_rfl) Tryz.underlying4 rfl ?_ ?_
  · intro t ht
    rw [Tryz.params5] at ht
    simp only [List.mem_cons, List.not_mem_nil, or_false] at ht
    rcases ht with rfl | rfl | rfl | rfl | rfl <;> exact ⟨by kernel_rfl, of_decide_eq_true (by kernel_rfl)⟩
  · intro ds hlen
    match ds, hlen with
    | [_, _, _, _, _], _ => rfl
  · intro W base args ds p hval hA hsz
    rw [Tryz.params5] at hA hval hsz
    obtain ⟨v0, vs0, d0, ds0, p0, q0, hargs, rfl, rfl, h0, r0⟩ := trodAll_cons hA
    obtain ⟨v1, vs1, d1, ds1, p1, q1, rfl, rfl, rfl, h1, r1⟩ := trodAll_cons r0
    obtain ⟨v2, vs2, d2, ds2, p2, q2, rfl, rfl, rfl, h2, r2⟩ := trodAll_cons r1
    obtain ⟨v3, vs3, d3, ds3, p3, q3, rfl, rfl, rfl, h3, r3⟩ := trodAll_cons r2
    obtain ⟨v4, vs4, d4, ds4, p4, q4, rfl, rfl, rfl, h4, r4⟩ := trodAll_cons r3
    obtain ⟨rfl, rfl, rfl⟩ := trodAll_nil r4
    obtain rfl : args = #[v0, v1, v2, v3, v4] := by cases args; simp_all
    obtain ⟨A0, n0, c0, xs0, rfl, b0, l0, q0⟩ := arg_bytes Tryz.underlying32 Tryz.underlying5 cells5 bytes5 hsz (j := 0) rfl rfl (hval 0 32 v0 rfl rfl) h0
    obtain ⟨x1a, x1b, rfl, hx1a, hx1b⟩ := arg_arr2 Tryz.underlying70 Tryz.underlying5 cells5 (by kernel_rfl) (hval 1 70 v1 rfl rfl) h1
    obtain ⟨A2, n2, c2, rs2, rfl, b2, l2, q2⟩ := arg_rows Tryz.underlying47 Tryz.underlying32 cells22 bytes22 Tryz.underlying5 cells5 bytes5 hsz (j := 2) rfl rfl (hval 2 47 v2 rfl rfl) h2
    obtain ⟨A3, n3, c3, xs3, rfl, b3, l3, q3⟩ := arg_bytes Tryz.underlying32 Tryz.underlying5 cells5 bytes5 hsz (j := 3) rfl rfl (hval 3 32 v3 rfl rfl) h3
    obtain ⟨A4, n4, c4, rs4, rfl, b4, l4, q4⟩ := arg_rows Tryz.underlying47 Tryz.underlying32 cells22 bytes22 Tryz.underlying5 cells5 bytes5 hsz (j := 4) rfl rfl (hval 4 47 v4 rfl rfl) h4
    exact rhops_any n0 n2 n3 n4 c0 c2 c3 c4 x1a x1b A0 A2 A3 A4 xs0 xs3 rs2 rs4 W b0 b2 b3 b4 (Nat.le_trans l0 (by decide)) l2 (Nat.le_trans l3 (by decide)) l4 hx1a hx1b

theorem over : Rows.relayHopsRow.holds Tryz.pinned (OpenSpec.ofChange Rows.relayHopsSpec) :=
  OpenClaim.holds_of_wide 5 Tryz.f5 rfl rfl rfl rfl rfl rfl rfl ⟨rfl, rfl, rfl, rfl, rfl⟩ rfl rfl rfl rfl rfl (by kernel_rfl) Tryz.func5 (by kernel_rfl)
    (of_decide_eq_true (by kernel_rfl)) (by unfold Func.isWrapper; first | (rw [if_pos (by decide +kernel)]; kernel_rfl) | (rw [if_neg (by decide +kernel)]; exact ⟨rfl, rfl⟩))
    (fun os started H enc _ => lifted os started H enc)

/-- The statement. -/
theorem proved : Rows.RelayHopsSaid :=
  over
#print axioms proved
end Go.Proofs.YtcjjhblgejkkeaaGreat.relayHops
