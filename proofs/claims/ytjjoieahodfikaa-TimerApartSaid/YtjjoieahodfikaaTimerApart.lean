/- For any two numbers of 16 bits and any slice of numbers of 32 bits, the law TimerApart answers true: each of two alarms is told at the Ticks at which it is told where it stands alone. -/
import Derived.Test.YtjjoieahodfikaaRows
import Derived.Test.YtjjoieahodfikaaQaa
import Derived.Test.YtjjoieahodfikaaTap
import Derived.ProofKit
namespace Go.Proofs.Ytjjoieahodfikaa.timerApart
open Go.ChangeShapes Go.WideShapes Go.ChangeAt Go.RowKit
set_option linter.unusedVariables false

theorem own : ownKnob Try.prog.godebug = none := by kernel_rfl
theorem laidOut : laidOutB Try.prog = true := by kernel_rfl
theorem u16_nat (a : Int) (h : (Lit.int .u16 a).wf = true) : ∃ n : Nat, a = n ∧ n < 65536 := by
  have h2 : 0 ≤ a ∧ a ≤ 65535 := by simpa [Lit.wf, IntKind.min, IntKind.max, IntKind.signed, IntKind.bits] using h
  obtain ⟨n, rfl⟩ := Int.eq_ofNat_of_zero_le h2.1
  exact ⟨n, rfl, by omega⟩
set_option maxRecDepth 100000 in
theorem lifted (os : Os) (started : os.Started) (H : Type) (enc : TypeId × Value → H) :
    ReturnsInHanded {} Try.checked os 6 .any (Rows.timerApartSpec.pre6 enc Try.prog Try.f6 Rows.timerApartRow.domain false) (Rows.timerApartSpec.post enc Try.prog Try.f6 false true false false) := by
  refine law_handed (C := Try.checked) own started (by kernel_rfl) Try.func6
    (ChangeSpec.witness6 (enc := enc) (C := Try.checked) false ⟨#[], #[.int .u16 0, .int .u16 0, .slice none 0 0], []⟩ 8 (by kernel_rfl) (by kernel_rfl) (by kernel_rfl) (by kernel_rfl))
    laidOut ?_ (tb := 4) (by kernel_rfl) Try.underlying4 rfl ?_ ?_
  · intro t ht
    rw [Try.params6] at ht
    simp only [List.mem_cons, List.not_mem_nil, or_false] at ht
    rcases ht with rfl | rfl | rfl <;> exact ⟨by kernel_rfl, of_decide_eq_true (by kernel_rfl)⟩
  · intro ds hlen
    match ds, hlen with
    | [_, _, _], _ => rfl
  · intro W base args ds p hval hA hsz
    rw [Try.params6] at hA hval hsz
    obtain ⟨v0, vs0, d0, ds0, p0, q0, hargs, rfl, rfl, h0, r0⟩ := trodAll_cons hA
    obtain ⟨v1, vs1, d1, ds1, p1, q1, rfl, rfl, rfl, h1, r1⟩ := trodAll_cons r0
    obtain ⟨v2, vs2, d2, ds2, p2, q2, rfl, rfl, rfl, h2, r2⟩ := trodAll_cons r1
    obtain ⟨rfl, rfl, rfl⟩ := trodAll_nil r2
    obtain rfl : args = #[v0, v1, v2] := by cases args; simp_all
    obtain ⟨a0, rfl, rfl, rfl, w0⟩ := open_int Try.underlying54 (hval 0 54 v0 rfl rfl) h0
    obtain ⟨x0, rfl, hx0⟩ := u16_nat a0 w0
    obtain ⟨a1, rfl, rfl, rfl, w1⟩ := open_int Try.underlying54 (hval 1 54 v1 rfl rfl) h1
    obtain ⟨x1, rfl, hx1⟩ := u16_nat a1 w1
    obtain ⟨A2, n2, c2, l2, rfl, b2, z2, q2, k2⟩ := arg_ks (q := .u32) (fun a ha => tu32_wf ha) Try.underlying52 Try.underlying55 (by kernel_rfl) (of_decide_eq_true (by kernel_rfl)) hsz (j := 2) rfl rfl (hval 2 52 v2 rfl rfl) h2
    exact tapart x0 x1 n2 c2 A2 l2 W hx0 hx1 b2 z2 q2

theorem over : Rows.timerApartRow.holds Try.pinned (OpenSpec.ofChange Rows.timerApartSpec) :=
  OpenClaim.holds_of_wide 6 Try.f6 rfl rfl rfl rfl rfl rfl rfl ⟨rfl, rfl, rfl, rfl, rfl⟩ rfl rfl rfl rfl rfl (by kernel_rfl) Try.func6 (by kernel_rfl)
    (of_decide_eq_true (by kernel_rfl)) (by unfold Func.isWrapper; first | (rw [if_pos (by decide +kernel)]; kernel_rfl) | (rw [if_neg (by decide +kernel)]; exact ⟨rfl, rfl⟩))
    (fun os started H enc _ => lifted os started H enc)

/-- The statement. -/
theorem proved : Rows.TimerApartSaid :=
  over
#print axioms proved
end Go.Proofs.Ytjjoieahodfikaa.timerApart
