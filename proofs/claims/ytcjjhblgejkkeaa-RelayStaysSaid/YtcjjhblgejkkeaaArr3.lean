/- An argument that is an array of three bytes, by value. -/
import Derived.Test.YtcjjhblgejkkeaaArr
namespace Go.Proofs.Ytcjjhblgejkkeaa
open Go.RowKit Go.ChangeShapes Go.WideShapes
section
variable {H : Type} {enc : TypeId × Value → H} {P : Program} {W : World} {base : Nat} {sp : Nat → Bool} {held : Bool}
theorem arg_arr3 {r : Reach} {b0 : Nat} {t e : TypeId} {v : Value} {d : DataW H} {p : List MemPlace} (ht : P.underlying t = some (.array 3 e)) (he : P.underlying e = some (.int .u8)) (hce : P.cellsOf e = 1) (hs : P.cellsOf t = 3) (hv : Value.okWide P W r b0 t v) (h : DataW.Trod enc P W base sp held t v d p) :
    ∃ a b c : Nat, v = .agg #[.int .u8 (a : Int), .int .u8 (b : Int), .int .u8 (c : Int)] ∧ a < 256 ∧ b < 256 ∧ c < 256 := by
  obtain ⟨⟨xs⟩, rfl, hl⟩ := agg_of ht hs hv
  obtain ⟨fuel, hf⟩ := h
  match xs, hl with
  | [c0, c1, c2], _ =>
    obtain ⟨y0, y1, y2, n, _, h0, h1, h2⟩ := trod_array3 ht hce (by simpa [Value.cells] using hf)
    obtain ⟨a, rfl, ha⟩ := byte_cell he h0
    obtain ⟨b, rfl, hb⟩ := byte_cell he h1
    obtain ⟨c, rfl, hc⟩ := byte_cell he h2
    exact ⟨a, b, c, rfl, ha, hb, hc⟩
end
end Go.Proofs.Ytcjjhblgejkkeaa
