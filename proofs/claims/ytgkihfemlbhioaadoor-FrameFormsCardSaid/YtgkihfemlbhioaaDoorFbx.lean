/- Frames and topologies in boxes. -/
import Derived.Test.YtgkihfemlbhioaaDoorNew
import Derived.Test.YtgkihfemlbhioaaDoorFrm
import Derived.Test.YtgkihfemlbhioaaDoorRegion
import Derived.Test.YtgkihfemlbhioaaDoorQmid
namespace Go.Proofs.YtgkihfemlbhioaaDoor
open Go.RowKit Fr
set_option linter.unusedVariables false
set_option linter.unusedSimpArgs false
/-- A box that holds a topology. -/
def topoCells (te : Nat) (u h : SlV) : Array Value := #[.int .u64 (te : Int), .slice u.A u.n u.c, .slice h.A h.n h.c]
def ToBox (w : World) (g : Nat) (te : Nat) (u h : SlV) : Prop := w.cell? ⟨g, 0, none⟩ = some (.int .u64 (te : Int)) ∧ w.cell? ⟨g, 1, none⟩ = some (.slice u.A u.n u.c) ∧ w.cell? ⟨g, 2, none⟩ = some (.slice h.A h.n h.c)
theorem to_boxes (w : World) (t1 t2 : TypeId) (te te' : Nat) (u h u' h' : SlV) {w2 : World} (hw : (w.alloc (.cells (topoCells te u h) t1)).alloc (.cells (topoCells te' u' h') t2) = w2) :
    Keep w w2 ∧ ∀ wr, Keep w2 wr → ToBox wr w.heap.size te u h ∧ ToBox wr (w.heap.size + 1) te' u' h' := by
  subst hw
  refine ⟨((Keep.refl w).alloc _ _).alloc _ _, fun wr kp => ?_⟩
  have h1 : ((w.alloc (.cells (topoCells te u h) t1)).alloc (.cells (topoCells te' u' h') t2)).heap[w.heap.size]? = some (.cells (topoCells te u h) t1 (0, 0)) := by
    exact (((Keep.refl (w.alloc (.cells (topoCells te u h) t1))).alloc _ _).block _ (by simp)).trans (heap_alloc_new w _)
  have h2 : ((w.alloc (.cells (topoCells te u h) t1)).alloc (.cells (topoCells te' u' h') t2)).heap[w.heap.size + 1]? = some (.cells (topoCells te' u' h') t2 (0, 0)) := by
    have := heap_alloc_new (w.alloc (.cells (topoCells te u h) t1)) (.cells (topoCells te' u' h') t2)
    simpa using this
  have g1 := (kp.block _ (Array.getElem?_eq_some_iff.1 h1).1).trans h1
  have g2 := (kp.block _ (Array.getElem?_eq_some_iff.1 h2).1).trans h2
  exact ⟨⟨by unfold World.cell?; rw [g1]; rfl, by unfold World.cell?; rw [g1]; rfl, by unfold World.cell?; rw [g1]; rfl⟩, ⟨by unfold World.cell?; rw [g2]; rfl, by unfold World.cell?; rw [g2]; rfl, by unfold World.cell?; rw [g2]; rfl⟩⟩
theorem list_ne {α : Type} {l l' : List α} {i : Nat} (h : l[i]? ≠ l'[i]?) : l ≠ l' := fun e => h (by rw [e])
theorem list_eq {α : Type} {l l' : List α} {n : Nat} (h1 : l.length = n) (h2 : l'.length = n) (h : ∀ k, k < n → l[k]? = l'[k]?) : l = l' := List.ext_getElem? fun k => by
  rcases Nat.lt_or_ge k n with hk | hk
  · exact h k hk
  · rw [List.getElem?_eq_none (by omega), List.getElem?_eq_none (by omega)]
theorem get_some {α : Type} {l : List α} {n i : Nat} (h : l.length = n) (hi : i < n) : ∃ x, l[i]? = some x := ⟨l[i], List.getElem?_eq_getElem (by omega)⟩
theorem fr_boxes (w : World) (t1 t2 : TypeId) (m m' : FrM) (f f' : FrV) {w2 : World} (hw : (w.alloc (.cells (frCells m f) t1)).alloc (.cells (frCells m' f') t2) = w2) :
    Keep w w2 ∧ ∀ wr, Keep w2 wr → FrBox wr w.heap.size t1 m f ∧ FrBox wr (w.heap.size + 1) t2 m' f' := by
  subst hw
  refine ⟨((Keep.refl w).alloc _ _).alloc _ _, fun wr kp => ?_⟩
  have h1 : FrBox ((w.alloc (.cells (frCells m f) t1)).alloc (.cells (frCells m' f') t2)) w.heap.size t1 m f := (FrBox.new rfl t1 m f).keep ((Keep.refl _).alloc _ _)
  have h2 : FrBox ((w.alloc (.cells (frCells m f) t1)).alloc (.cells (frCells m' f') t2)) (w.heap.size + 1) t2 m' f' := FrBox.new (by simp) t2 m' f'
  exact ⟨h1.keep kp, h2.keep kp⟩
theorem range_three {w : World} {b off : Nat} {x y z : Value} (h1 : w.cell? ⟨b, off, none⟩ = some x) (h2 : w.cell? ⟨b, off + 1, none⟩ = some y) (h3 : w.cell? ⟨b, off + 2, none⟩ = some z) : w.rangeAt b off [x, y, z] := fun j v hv => by
  match j, hv with
  | 0, hv => simp at hv; subst hv; exact h1
  | 1, hv => simp at hv; subst hv; exact h2
  | 2, hv => simp at hv; subst hv; exact h3
theorem to_box (w : World) (t1 : TypeId) (te : Nat) (u h : SlV) {w2 : World} (hw : w.alloc (.cells (topoCells te u h) t1) = w2) : Keep w w2 ∧ ∀ wr, Keep w2 wr → ToBox wr w.heap.size te u h := by
  subst hw
  refine ⟨(Keep.refl w).alloc _ _, fun wr kp => ?_⟩
  have h1 := heap_alloc_new w (.cells (topoCells te u h) t1)
  have g1 := (kp.block _ (Array.getElem?_eq_some_iff.1 h1).1).trans h1
  exact ⟨by unfold World.cell?; rw [g1]; rfl, by unfold World.cell?; rw [g1]; rfl, by unfold World.cell?; rw [g1]; rfl⟩
theorem two_box (w : World) (t : TypeId) (x y : Value) {w2 : World} (hw : w.alloc (.cells #[x, y] t) = w2) : Keep w w2 ∧ w2.cell? ⟨w.heap.size, 0, none⟩ = some x ∧ w2.cell? ⟨w.heap.size, 1, none⟩ = some y := by
  subst hw
  have h1 := heap_alloc_new w (.cells #[x, y] t)
  exact ⟨(Keep.refl w).alloc _ _, by unfold World.cell?; rw [h1]; rfl, by unfold World.cell?; rw [h1]; rfl⟩
/-- The slices of a frame with nothing but what its Kind has. -/
def bareM (m : FrM) (k : Int) : FrM :=
  ⟨if k = 1 then m.co else ⟨none, 0, 0⟩, if k = 1 then m.pay else ⟨none, 0, 0⟩, if k = 2 then m.rk else ⟨none, 0, 0⟩, if k = 5 then m.up else ⟨none, 0, 0⟩, if k = 5 then m.hp else ⟨none, 0, 0⟩⟩
theorem infoFr : (Tryd.prog.info? 32).map (·.size) = some 15 := by kernel_rfl
theorem mid_block (w : World) (a b c : Array Value) (t1 t2 t3 : TypeId) : (((w.alloc (.cells a t1)).alloc (.cells b t2)).alloc (.cells c t3)).heap[w.heap.size + 1]? = some (.cells b t2 (0, 0)) := by
  have h2 := heap_alloc_new (w.alloc (.cells a t1)) (.cells b t2)
  have e1 : (w.alloc (.cells a t1)).heap.size = w.heap.size + 1 := by simp
  rw [e1] at h2
  exact (((Keep.refl ((w.alloc (.cells a t1)).alloc (.cells b t2))).alloc c t3).block _ (by simp)).trans h2
theorem fr_box (w : World) (t1 : TypeId) (m : FrM) (f : FrV) {w2 : World} (hw : w.alloc (.cells (frCells m f) t1) = w2) : Keep w w2 ∧ ∀ wr, Keep w2 wr → FrBox wr w.heap.size t1 m f := by
  subst hw
  exact ⟨(Keep.refl w).alloc _ _, fun wr kp => (FrBox.new rfl t1 m f).keep kp⟩
theorem FrIn.bare {w : World} {B : Nat} {m : FrM} {f : FrV} (h : FrIn w B m f) : FrIn w B (bareM m f.kind) (bareF f) := by
  have z : SlV.ok ⟨none, 0, 0⟩ := by simp [SlV.ok]
  refine ⟨?_, ?_, ?_, ?_, ?_, ⟨?_, ?_, ?_, ?_, ?_⟩, ⟨h.ints.1, h.ints.2.1, h.ints.2.2.1, ?_⟩, ⟨h.nats.1, h.nats.2.1, ?_, ?_, ?_, ?_⟩, ?_, ?_⟩ <;> simp only [bareM, bareF]
  · split
    · exact h.co
    · exact Bytes.nil _ _ _
  · split
    · exact h.pay
    · exact Bytes.nil _ _ _
  · split
    · exact h.rk
    · exact RanksAt.none_ _ _ _
  · split
    · exact h.up
    · exact UpsAt.none_ _ _ _
  · split
    · exact h.hp
    · exact HopsAt.none_ _ _ _
  · split
    · exact h.oks.1
    · exact z
  · split
    · exact h.oks.2.1
    · exact z
  · split
    · exact h.oks.2.2.1
    · exact z
  · split
    · exact h.oks.2.2.2.1
    · exact z
  · split
    · exact h.oks.2.2.2.2
    · exact z
  · split
    · exact h.ints.2.2.2
    · simp [I64]
  · split
    · exact h.nats.2.2.1
    · simp [U64]
  · split
    · exact h.nats.2.2.2.1
    · simp [U64]
  · split
    · exact h.nats.2.2.2.2.1
    · simp [U64]
  · split
    · exact h.nats.2.2.2.2.2
    · simp [U64]
  · intro r hr
    split at hr
    · exact h.rks r hr
    · simp at hr
  · intro l hl
    split at hl
    · exact h.eds l hl
    · simp at hl
end Go.Proofs.YtgkihfemlbhioaaDoor
