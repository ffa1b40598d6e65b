/- Words for memory: nothing that was there has turned. -/
import Derived.Below
import Derived.Carry
import Derived.Laws.Rows
import Derived.Deep.Draws
namespace Go.Proofs.YtcjjhblgejkkeaaGreat
open Go.RowKit

/-- Nothing of what was there has turned; new blocks may lie behind. -/
def Keep (w w' : World) : Prop := Below w.heap.size w w'
namespace Keep
variable {W w w' : World}
theorem refl (w : World) : Keep w w := Below.refl _ _
theorem trans {a b c : World} (h : Keep a b) (k : Keep b c) : Keep a c := Below.trans h (Below.mono k (Below.size h))
theorem alloc (h : Keep W w) (c : Array Value) (t : TypeId) : Keep W (w.alloc (.cells c t)) := Below.alloc h (Below.size h) _
theorem allocMap (h : Keep W w) (es : Array MapEntry) (c : Nat) : Keep W (w.alloc (.map es c)) := Below.alloc h (Below.size h) _
theorem setCell (h : Keep W w) {a : Addr} (ha : W.heap.size ≤ a.block) (v : Value) : Keep W (w.setCell a v) := Below.setCell h ha v
theorem drew (h : Keep W w) : Keep W w.drew := Below.drew h
theorem drewN (h : Keep W w) (n : Nat) : Keep W (w.drewN n) := ⟨h.os, h.tape, h.output, h.size, h.block⟩
theorem grown {row : Option Nat} (h : Keep W w) (hg : w.grownBy w' row) (hr : ∀ k, row = some k → W.heap.size ≤ k) : Keep W w' := Below.grown h hg (Below.size h) hr
theorem setRow (h : Keep W w) {g : Nat} (hg : W.heap.size ≤ g) {old cs : Array Value} {t : TypeId} (_hb : w.heap[g]? = some (.cells old t)) : Keep W (w.setRow g cs) :=
  Below.trans h ⟨rfl, rfl, rfl, by rw [setRow_size]; exact Nat.le_refl _, fun k hk => setRow_other w g k cs (by omega)⟩
theorem block (h : Keep W w) (k : Nat) (hk : k < W.heap.size) : w.heap[k]? = W.heap[k]? := Below.block h k hk
theorem size (h : Keep W w) : W.heap.size ≤ w.heap.size := Below.size h
end Keep
end Go.Proofs.YtcjjhblgejkkeaaGreat
