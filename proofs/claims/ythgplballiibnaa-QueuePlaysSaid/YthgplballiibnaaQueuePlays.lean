/- For any int and any slice of acts, the law QueuePlays answers true: rows of calls of a queue are answered as the document says; what was given and told is memory of its own. -/
import Derived.Test.YthgplballiibnaaRows
import Derived.Test.YthgplballiibnaaFrame
import Derived.Test.YthgplballiibnaaOpen
import Derived.Test.YthgplballiibnaaOpenB
import Derived.Test.YthgplballiibnaaQplays
import Derived.ProofKit
namespace Go.Proofs.Ythgplballiibnaa.queuePlays
open Go.ChangeShapes Go.WideShapes Go.ChangeAt Go.RowKit
set_option linter.unusedVariables false

theorem own : ownKnob Try.prog.godebug = none := by kernel_rfl
theorem laidOut : laidOutB Try.prog = true := by kernel_rfl
theorem cells5 : Try.prog.cellsOf 5 = 1 := by kernel_rfl
theorem bytes5 : Try.prog.bytesOf 5 = 1 := by kernel_rfl
set_option maxRecDepth 100000 in
theorem lifted (os : Os) (started : os.Started) (H : Type) (enc : TypeId × Value → H) :
    ReturnsInHanded {} Try.checked os 3 .any (Rows.queuePlaysSpec.pre6 enc Try.prog Try.f3 Rows.queuePlaysRow.domain false) (Rows.queuePlaysSpec.post enc Try.prog Try.f3 false true false false) := by
  refine law_handed (C := Try.checked) own started (by kernel_rfl) Try.func3
    (ChangeSpec.witness6 (enc := enc) (C := Try.checked) false ⟨#[], #[.int .i64 0, .slice none 0 0], []⟩ 8 (by kernel_rfl) (by kernel_rfl) (by kernel_rfl) (by kernel_rfl))
    laidOut ?_ (tb := 4) (by kernel_rfl) Try.underlying4 rfl ?_ ?_
  · intro t ht
    rw [Try.params3] at ht
    simp only [List.mem_cons, List.not_mem_nil, or_false] at ht
    rcases ht with rfl | rfl <;> exact ⟨by kernel_rfl, of_decide_eq_true (by kernel_rfl)⟩
  · intro ds hlen
    match ds, hlen with
    | [_, _], _ => rfl
  · intro W base args ds p hval hA hsz
    rw [Try.params3] at hA hval hsz
    obtain ⟨v0, vs0, d0, ds0, p0, q0, hargs, rfl, rfl, h0, r0⟩ := trodAll_cons hA
    obtain ⟨v1, vs1, d1, ds1, p1, q1, rfl, rfl, rfl, h1, r1⟩ := trodAll_cons r0
    obtain ⟨rfl, rfl, rfl⟩ := trodAll_nil r1
    obtain rfl : args = #[v0, v1] := by cases args; simp_all
    obtain ⟨i0, rfl, rfl, rfl, w0⟩ := open_int Try.underlying3 (hval 0 3 v0 rfl rfl) h0
    obtain ⟨A1, n1, c1, g1, rfl, b1, l1, q1, f1⟩ := arg_structs Try.underlying22 Try.underlying33 (by kernel_rfl) (by kernel_rfl) (by decide) (of_decide_eq_true (by kernel_rfl)) hsz (j := 1) rfl rfl (hval 1 22 v1 rfl rfl) h1
    have i1 : ∀ r ∈ g1, ∃ (a : Int) (v : RowV), r = [.int .i64 a, v.val] ∧ Bytes W W.heap.size v.A v.n v.xs ∧ v.n ≤ 140737488351232 := fun r hr => by
      obtain ⟨a, e1, _⟩ := field_int Try.underlying3 (f1 r hr 0 _ rfl)
      obtain ⟨v, e2, k2, k3, _⟩ := field_bytes Try.underlying31 Try.underlying5 cells5 bytes5 (f1 r hr 1 _ rfl)
      have hl := b1.2.1 r hr
      match r, hl with
      | [x, y], _ =>
        simp at e1 e2
        exact ⟨a, v, by rw [e1, e2], k2, k3⟩
    exact plays_any i0 n1 c1 A1 g1 W ⟨b1, i1⟩ l1

theorem over : Rows.queuePlaysRow.holds Try.pinned (OpenSpec.ofChange Rows.queuePlaysSpec) :=
  OpenClaim.holds_of_wide 3 Try.f3 rfl rfl rfl rfl rfl rfl rfl ⟨rfl, rfl, rfl, rfl, rfl⟩ rfl rfl rfl rfl rfl (by kernel_rfl) Try.func3 (by kernel_rfl)
    (of_decide_eq_true (by kernel_rfl)) (by unfold Func.isWrapper; first | (rw [if_pos (by decide +kernel)]; kernel_rfl) | (rw [if_neg (by decide +kernel)]; exact ⟨rfl, rfl⟩))
    (fun os started H enc _ => lifted os started H enc)

/-- The statement. -/
theorem proved : Rows.QueuePlaysSaid :=
  over
#print axioms proved
end Go.Proofs.Ythgplballiibnaa.queuePlays
