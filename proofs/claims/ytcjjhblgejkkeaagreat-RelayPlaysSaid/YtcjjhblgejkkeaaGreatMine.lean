/- A slice of one's own, whatever it holds: written to. -/
import Derived.Test.YtcjjhblgejkkeaaGreatNew
namespace Go.Proofs.YtcjjhblgejkkeaaGreat
open Go.RowKit
/-- A slice of one's own, whatever it holds. -/
def Mine (w wr : World) (A : Option Addr) (n c : Nat) : Prop := ∃ xs, Own wr w.heap.size 5 A n c xs
theorem Mine.at_ {w wr : World} {A : Option Addr} {n c k : Nat} (h : Mine w wr A n c) (hk : k < n) :
    ∃ g v : Nat, A = some ⟨g, 0, none⟩ ∧ w.heap.size ≤ g ∧ v < 256 ∧ wr.cell? ⟨g, k, none⟩ = some (.int .u8 (v : Int)) ∧ wr.frozen? ⟨g, k, none⟩ = false := by
  obtain ⟨xs, h⟩ := h
  obtain ⟨g, rfl, hg, _⟩ := h.block (by omega)
  exact ⟨g, xs.getD k 0, rfl, hg, h.2.getD k, h.cell hk, h.frozen k⟩
theorem Mine.set {w wr : World} {A : Option Addr} {n c : Nat} (h : Mine w wr A n c) (g k v : Nat) (hv : v < 256) : Mine w (wr.setCell ⟨g, k, none⟩ (.int .u8 (v : Int))) A n c := by
  obtain ⟨xs, h⟩ := h
  by_cases e : (Value.slice A n c).ownBlock = some g
  · rcases h.1.2 with ⟨hv', _⟩ | ⟨g', cap, cur, hv', _⟩
    · rw [hv'] at e; cases e
    · rw [hv'] at e
      obtain rfl : g' = g := by simpa [Value.ownBlock] using e
      injection hv' with e1 e2 e3
      subst e1
      exact ⟨_, h.stored (i := k) hv⟩
  · exact ⟨xs, h.far e _⟩
theorem Mine.keep {w wr w' : World} {A : Option Addr} {n c : Nat} (h : Mine w wr A n c) (k : Keep wr w') : Mine w w' A n c := by
  obtain ⟨xs, h⟩ := h; exact ⟨xs, h.keep k⟩
theorem Mine.of {w w1 w2 : World} {A : Option Addr} {n c : Nat} {xs : List Nat} (h : Own w2 w1.heap.size 5 A n c xs) (k : Keep w w1) : Mine w w2 A n c := ⟨xs, h.lower k.size⟩
/-- 255 under xor, as the walk writes it. -/
theorem flip_int (v u : Nat) (hv : v < 256) (h : v ^^^ 255 = u) : bits .xor .u8 (v : Int) 255 = (u : Int) ∧ u < 256 := by
  subst h
  exact ⟨u8_xor_nat v 255 hv (by decide), Nat.xor_lt_two_pow (n := 8) hv (by decide)⟩
end Go.Proofs.YtcjjhblgejkkeaaGreat
