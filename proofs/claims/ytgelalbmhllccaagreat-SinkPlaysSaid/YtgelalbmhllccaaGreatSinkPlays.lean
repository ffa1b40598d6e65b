/- For any beginning and any slice of Acts, the law SinkPlays answers true: rows of calls, over a relay, are answered as the document says. -/
import Derived.Test.YtgelalbmhllccaaGreatRows
import Derived.Test.YtgelalbmhllccaaGreatQaa
import Derived.Test.YtgelalbmhllccaaGreatQab
import Derived.Test.YtgelalbmhllccaaGreatKpl
import Derived.ProofKit
namespace Go.Proofs.YtgelalbmhllccaaGreat.sinkPlays
open Go.ChangeShapes Go.WideShapes Go.ChangeAt Go.RowKit
set_option linter.unusedVariables false

theorem own : ownKnob Tryz.prog.godebug = none := by kernel_rfl
theorem laidOut : laidOutB Tryz.prog = true := by kernel_rfl
theorem cells5 : Tryz.prog.cellsOf 5 = 1 := by kernel_rfl
theorem bytes5 : Tryz.prog.bytesOf 5 = 1 := by kernel_rfl
theorem cells22 : Tryz.prog.cellsOf 43 = 1 := by kernel_rfl
theorem bytes22 : 1 ≤ Tryz.prog.bytesOf 43 := of_decide_eq_true (by kernel_rfl)
set_option maxRecDepth 100000 in
theorem lifted (os : Os) (started : os.Started) (H : Type) (enc : TypeId × Value → H) :
    ReturnsInHanded {} Tryz.checked os 3 .any (Rows.sinkPlaysSpec.pre6 enc Tryz.prog Tryz.f3 Rows.sinkPlaysRow.domain false) (Rows.sinkPlaysSpec.post enc Tryz.prog Tryz.f3 false true false false) := by
  refine law_handed (C := Tryz.checked) own started (by kernel_rfl) Tryz.func3
    (ChangeSpec.witness6 (enc := enc) (C := Tryz.checked) false ⟨#[], #[.agg #[.int .i64 0, .int .i64 0, .int .i64 0, .int .u64 0], .slice none 0 0], []⟩ 8 (by kernel_rfl) (by kernel_rfl) (by kernel_rfl) (by kernel_rfl))
    laidOut ?_ (tb := 4) (by kernel_rfl) Tryz.underlying4 rfl ?_ ?_
  · intro t ht
    rw [Tryz.params3] at ht
    simp only [List.mem_cons, List.not_mem_nil, or_false] at ht
    rcases ht with rfl | rfl <;> exact ⟨by kernel_rfl, of_decide_eq_true (by kernel_rfl)⟩
  · intro ds hlen
    match ds, hlen with
    | [_, _], _ => rfl
  · intro W base args ds p hval hA hsz
    rw [Tryz.params3] at hA hval hsz
    obtain ⟨v0, vs0, d0, ds0, p0, q0, hargs, rfl, rfl, h0, r0⟩ := trodAll_cons hA
    obtain ⟨v1, vs1, d1, ds1, p1, q1, rfl, rfl, rfl, h1, r1⟩ := trodAll_cons r0
    obtain ⟨rfl, rfl, rfl⟩ := trodAll_nil r1
    obtain rfl : args = #[v0, v1] := by cases args; simp_all
    obtain ⟨G0, S0, K0, N0, rfl, hG0, hS0, hK0, hN0⟩ := arg_sbegin Tryz.underlying24 (by kernel_rfl) (by kernel_rfl) rfl rfl rfl rfl Tryz.underlying3 Tryz.underlying22 hsz (j := 0) rfl rfl (hval 0 24 v0 rfl rfl) h0
    obtain ⟨A1, n1, c1, l1, rfl, b1, q1, k1⟩ := arg_sops Tryz.underlying25 Tryz.underlying47 (by kernel_rfl) (of_decide_eq_true (by kernel_rfl)) ⟨rfl, rfl⟩ ⟨rfl, rfl⟩ ⟨rfl, rfl⟩ Tryz.underlying3 (by kernel_rfl) Tryz.underlying22 (by kernel_rfl) Tryz.underlying45 (by kernel_rfl) ⟨rfl, rfl⟩ ⟨rfl, rfl⟩ Tryz.underlying43 cells22 Tryz.underlying5 cells5 bytes5 hsz (j := 1) rfl rfl (hval 1 25 v1 rfl rfl) h1
    exact kplays_any G0 S0 K0 N0 n1 c1 A1 l1 W b1 q1 hN0

theorem over : Rows.sinkPlaysRow.holds Tryz.pinned (OpenSpec.ofChange Rows.sinkPlaysSpec) :=
  OpenClaim.holds_of_wide 3 Tryz.f3 rfl rfl rfl rfl rfl rfl rfl ⟨rfl, rfl, rfl, rfl, rfl⟩ rfl rfl rfl rfl rfl (by kernel_rfl) Tryz.func3 (by kernel_rfl)
    (of_decide_eq_true (by kernel_rfl)) (by unfold Func.isWrapper; first | (rw [if_pos (by decide +kernel)]; kernel_rfl) | (rw [if_neg (by decide +kernel)]; exact ⟨rfl, rfl⟩))
    (fun os started H enc _ => lifted os started H enc)

/-- The statement. -/
theorem proved : Rows.SinkPlaysSaid :=
  over
#print axioms proved
end Go.Proofs.YtgelalbmhllccaaGreat.sinkPlays
