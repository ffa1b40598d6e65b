/- Arguments that are arrays of bytes, by value: of two, of four. -/
import Derived.Test.YtcjjhblgejkkeaaGreatOpen
import Derived.Laws.IdiomArrays
namespace Go.Proofs.YtcjjhblgejkkeaaGreat
open Go.RowKit Go.ChangeShapes Go.WideShapes
set_option linter.unusedVariables false
section
variable {H : Type} {enc : TypeId × Value → H} {P : Program} {W : World} {base : Nat} {sp : Nat → Bool} {held : Bool}
theorem u8_lit (a : Int) (h : (Lit.int .u8 a).wf = true) : ∃ n : Nat, a = n ∧ n < 256 := by
  have h2 : 0 ≤ a ∧ a ≤ 255 := by simpa [Lit.wf, IntKind.min, IntKind.max, IntKind.signed, IntKind.bits] using h
  obtain ⟨n, rfl⟩ := Int.eq_ofNat_of_zero_le h2.1
  exact ⟨n, rfl, by omega⟩
theorem byte_cell {e : TypeId} {fuel : Nat} {c : Value} {y : DataW H × List MemPlace} (he : P.underlying e = some (.int .u8)) (h : DataW.trod enc P W base sp held fuel e [c] = some y) : ∃ n : Nat, c = .int .u8 (n : Int) ∧ n < 256 := by
  obtain ⟨a, ea, _, wa⟩ := DataW.trod_int he h
  obtain ⟨n, rfl, hn⟩ := u8_lit a wa
  simp at ea
  exact ⟨n, ea, hn⟩
theorem trod_array2 {t e : TypeId} {fuel : Nat} {c0 c1 : Value} {x : DataW H × List MemPlace} (ht : P.underlying t = some (.array 2 e)) (hce : P.cellsOf e = 1)
    (h : DataW.trod enc P W base sp held fuel t [c0, c1] = some x) :
    ∃ y0 y1 n, DataW.trod enc P W base sp held n e [c0] = some y0 ∧ DataW.trod enc P W base sp held n e [c1] = some y1 := by
  cases fuel with
  | zero => simp [DataW.trod] at h
  | succ n =>
    unfold DataW.trod at h
    rw [ht] at h
    have r2 : List.range 2 = [0, 1] := rfl
    simp [r2, hce] at h
    obtain ⟨_, h⟩ := h
    cases h0 : DataW.trod enc P W base sp held n e [c0] with
    | none => simp [h0] at h
    | some y0 =>
      cases h1 : DataW.trod enc P W base sp held n e [c1] with
      | none => simp [h0, h1] at h
      | some y1 => exact ⟨y0, y1, n, h0, h1⟩
theorem agg_of {r : Reach} {b0 m : Nat} {t e : TypeId} {v : Value} (ht : P.underlying t = some (.array m e)) (hs : P.cellsOf t = m) (h : Value.okWide P W r b0 t v) : ∃ xs : Array Value, v = .agg xs ∧ xs.toList.length = m := by
  simp only [Value.okWide, ht] at h
  obtain ⟨cs, h1, h2, _⟩ := h
  exact ⟨cs, h1, by rw [Array.length_toList, h2, hs]⟩
theorem arg_arr2 {r : Reach} {b0 : Nat} {t e : TypeId} {v : Value} {d : DataW H} {p : List MemPlace} (ht : P.underlying t = some (.array 2 e)) (he : P.underlying e = some (.int .u8)) (hce : P.cellsOf e = 1) (hs : P.cellsOf t = 2) (hv : Value.okWide P W r b0 t v) (h : DataW.Trod enc P W base sp held t v d p) :
    ∃ a b : Nat, v = .agg #[.int .u8 (a : Int), .int .u8 (b : Int)] ∧ a < 256 ∧ b < 256 := by
  obtain ⟨⟨xs⟩, rfl, hl⟩ := agg_of ht hs hv
  obtain ⟨fuel, hf⟩ := h
  match xs, hl with
  | [c0, c1], _ =>
    obtain ⟨y0, y1, n, h0, h1⟩ := trod_array2 ht hce (by simpa [Value.cells] using hf)
    obtain ⟨a, rfl, ha⟩ := byte_cell he h0
    obtain ⟨b, rfl, hb⟩ := byte_cell he h1
    exact ⟨a, b, rfl, ha, hb⟩
theorem arg_arr4 {r : Reach} {b0 : Nat} {t e : TypeId} {v : Value} {d : DataW H} {p : List MemPlace} (ht : P.underlying t = some (.array 4 e)) (he : P.underlying e = some (.int .u8)) (hce : P.cellsOf e = 1) (hs : P.cellsOf t = 4) (hv : Value.okWide P W r b0 t v) (h : DataW.Trod enc P W base sp held t v d p) :
    ∃ a b c f : Nat, v = .agg #[.int .u8 (a : Int), .int .u8 (b : Int), .int .u8 (c : Int), .int .u8 (f : Int)] ∧ a < 256 ∧ b < 256 ∧ c < 256 ∧ f < 256 := by
  obtain ⟨⟨xs⟩, rfl, hl⟩ := agg_of ht hs hv
  obtain ⟨fuel, hf⟩ := h
  match xs, hl with
  | [c0, c1, c2, c3], _ =>
    obtain ⟨y0, y1, y2, y3, n, _, h0, h1, h2, h3⟩ := trod_array4 ht hce (by simpa [Value.cells] using hf)
    obtain ⟨a, rfl, ha⟩ := byte_cell he h0
    obtain ⟨b, rfl, hb⟩ := byte_cell he h1
    obtain ⟨c, rfl, hc⟩ := byte_cell he h2
    obtain ⟨f, rfl, hff⟩ := byte_cell he h3
    exact ⟨a, b, c, f, rfl, ha, hb, hc, hff⟩
end
end Go.Proofs.YtcjjhblgejkkeaaGreat
