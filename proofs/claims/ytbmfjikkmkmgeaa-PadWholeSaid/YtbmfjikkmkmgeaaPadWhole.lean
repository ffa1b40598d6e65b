/- For any Whole, the law PadWhole answers true: the chunks and what is open are the stream; each cut is a chunk's end; more bytes behind change no chunk. -/
import Derived.Test.YtbmfjikkmkmgeaaRows
import Derived.Test.YtbmfjikkmkmgeaaFrame
import Derived.Test.YtbmfjikkmkmgeaaOpen
import Derived.Test.YtbmfjikkmkmgeaaPadw
import Derived.Test.YtbmfjikkmkmgeaaPwhole
import Derived.ProofKit
namespace Go.Proofs.Ytbmfjikkmkmgeaa.padWhole
open Go.ChangeShapes Go.WideShapes Go.ChangeAt Go.RowKit
set_option linter.unusedVariables false

theorem own : ownKnob Try.prog.godebug = none := by kernel_rfl
theorem laidOut : laidOutB Try.prog = true := by kernel_rfl
theorem cells5 : Try.prog.cellsOf 5 = 1 := by kernel_rfl
theorem bytes5 : Try.prog.bytesOf 5 = 1 := by kernel_rfl
theorem cells22 : Try.prog.cellsOf 22 = 1 := by kernel_rfl
theorem bytes22 : 1 ≤ Try.prog.bytesOf 22 := of_decide_eq_true (by kernel_rfl)
set_option maxRecDepth 100000 in
theorem lifted (os : Os) (started : os.Started) (H : Type) (enc : TypeId × Value → H) :
    ReturnsInHanded {} Try.checked os 6 .any (Rows.padWholeSpec.pre6 enc Try.prog Try.f6 Rows.padWholeRow.domain false) (Rows.padWholeSpec.post enc Try.prog Try.f6 false true false false) := by
  refine law_handed (C := Try.checked) own started (by kernel_rfl) Try.func6
    (ChangeSpec.witness6 (enc := enc) (C := Try.checked) false ⟨#[], #[.agg #[.int .i64 0, .int .i64 0, .slice none 0 0, .slice none 0 0, .slice none 0 0]], []⟩ 8 (by kernel_rfl) (by kernel_rfl) (by kernel_rfl) (by kernel_rfl))
    laidOut ?_ (tb := 4) (by kernel_rfl) Try.underlying4 rfl ?_ ?_
  · intro t ht
    rw [Try.params6] at ht
    simp only [List.mem_cons, List.not_mem_nil, or_false] at ht
    rcases ht with rfl <;> exact ⟨by kernel_rfl, of_decide_eq_true (by kernel_rfl)⟩
  · intro ds hlen
    match ds, hlen with
    | [_], _ => rfl
  · intro W base args ds p hval hA hsz
    rw [Try.params6] at hA hval hsz
    obtain ⟨v0, vs0, d0, ds0, p0, q0, hargs, rfl, rfl, h0, r0⟩ := trodAll_cons hA
    obtain ⟨rfl, rfl, rfl⟩ := trodAll_nil r0
    obtain rfl : args = #[v0] := by cases args; simp_all
    obtain ⟨g0, s0, na0, ca0, nb0, cb0, nc0, cc0, Aa0, Ab0, Ac0, xa0, zb0, xc0, rfl, hg0, hs0, ⟨ba0, la0, ka0⟩, ⟨bb0, hz0, lb0, kb0⟩, bc0, lc0, kc0⟩ := arg_whole Try.underlying52 (by kernel_rfl) rfl rfl rfl rfl rfl rfl rfl rfl Try.underlying45 (by kernel_rfl) rfl rfl rfl rfl Try.underlying43 (by kernel_rfl) Try.underlying3 (by kernel_rfl) (of_decide_eq_true (by kernel_rfl)) Try.underlying22 cells22 Try.underlying5 cells5 bytes5 hsz (j := 0) rfl rfl (hval 0 52 v0 rfl rfl) h0
    exact padwhole_any g0 s0 na0 ca0 nb0 cb0 nc0 cc0 Aa0 Ab0 Ac0 xa0 zb0 xc0 W ba0 bb0 hz0 bc0 la0 ka0 lb0 kb0 lc0 kc0

theorem over : Rows.padWholeRow.holds Try.pinned (OpenSpec.ofChange Rows.padWholeSpec) :=
  OpenClaim.holds_of_wide 6 Try.f6 rfl rfl rfl rfl rfl rfl rfl ⟨rfl, rfl, rfl, rfl, rfl⟩ rfl rfl rfl rfl rfl (by kernel_rfl) Try.func6 (by kernel_rfl)
    (of_decide_eq_true (by kernel_rfl)) (by unfold Func.isWrapper; first | (rw [if_pos (by decide +kernel)]; kernel_rfl) | (rw [if_neg (by decide +kernel)]; exact ⟨rfl, rfl⟩))
    (fun os started H enc _ => lifted os started H enc)

/-- The statement. -/
theorem proved : Rows.PadWholeSaid :=
  over
#print axioms proved
end Go.Proofs.Ytbmfjikkmkmgeaa.padWhole
