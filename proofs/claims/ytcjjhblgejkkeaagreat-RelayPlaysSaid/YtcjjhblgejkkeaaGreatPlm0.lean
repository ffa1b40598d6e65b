/- A row of bytes of one's own and rows of one's own lie apart. -/
import Derived.Test.YtcjjhblgejkkeaaGreatBytes
import Derived.Test.YtcjjhblgejkkeaaGreatSt
namespace Go.Proofs.YtcjjhblgejkkeaaGreat
open Go.RowKit
theorem stu_apart {w : World} {base base' n n' c c' : Nat} {A A' : Option Addr} {xs : List Nat} {ps : List PairV} (h : Own w base 5 A n c xs) (h' : OwnSt w base' A' n' c' ps) : ∀ x, (Value.slice A n c).ownBlock = some x → (Value.slice A' n' c').ownBlock ≠ some x := fun x hx e => by
  rcases h.1.2 with ⟨hv, _⟩ | ⟨g, cap, cur, hv, _, hh, _⟩
  · rw [hv] at hx; cases hx
  · rcases h'.2 with ⟨hv', _⟩ | ⟨g', cap', cur', hv', _, hh', _⟩
    · rw [hv'] at e; cases e
    · rw [hv] at hx
      rw [hv'] at e
      obtain rfl : g = x := by simpa [Value.ownBlock] using hx
      obtain rfl : g' = g := by simpa [Value.ownBlock] using e
      rw [hh] at hh'
      simp at hh'
end Go.Proofs.YtcjjhblgejkkeaaGreat
