/- The closed law of frames: what it speaks of. -/
import Derived.Test.YtgkihfemlbhioaaDoorGawk
import Derived.RegionTactic
import Derived.BigRegion
import Derived.Test.YtgkihfemlbhioaaDoorNew
import Derived.Deep.DeepCutAuto
import Derived.Deep.CutBlock
namespace Go.Proofs.YtgkihfemlbhioaaDoor
open Go.RowKit Fr Crc
set_option linter.unusedVariables false
set_option linter.unusedSimpArgs false
def bigF : FrV := ⟨1, 63, 0, 1125899906842624, 1125899906842624, 3, 1099511627775, 1125899906842624, 0, List.replicate 255 0, List.replicate 65535 0, [], 0, [], []⟩
def toldF : FrV := ⟨2, 0, 1, 0, 1, 0, 1099511627774, 1, 0, [], [], [(1099511627775, 255)], 0, [], []⟩
def farF : FrV := ⟨2, 0, 1, 0, 1, 0, 1099511627774, 1, 0, [], [], [(1099511627776, 1)], 0, [], []⟩
def twiceF : FrV := ⟨2, 0, 1, 0, 1, 0, 1099511627774, 1, 0, [], [], [(1099511627774, 1), (1099511627774, 1)], 0, [], []⟩
def looseF : FrV := ⟨5, 2, 2, 0, 0, 0, 0, 0, 0, [], [], [], 1, [true, false, true], [[(0, 3)]]⟩
def emptyF : FrV := ⟨5, 2, 2, 0, 0, 0, 0, 0, 0, [], [], [], 1, [true, false, true], [[], []]⟩
def badL : List FrV := [⟨0, 0, 0, 0, 0, 0, 0, 0, 0, [], [], [], 0, [], []⟩, ⟨4, 0, 0, 0, 1, 0, 0, 0, 0, [], [], [], 0, [], []⟩, ⟨4, 0, 1, 0, 0, 0, 0, 0, 0, [], [], [], 0, [], []⟩, ⟨4, 0, 64, 0, 1, 0, 0, 0, 0, [], [], [], 0, [], []⟩, ⟨4, 0, 1, 0, 1, 1, 0, 0, 0, [], [], [], 0, [], []⟩, ⟨3, 0, 1, 0, 1, 0, 0, 0, 0, [], [], [], 0, [], []⟩, ⟨6, 0, 1, 0, 1, 0, 1099511627777, 0, 0, [], [], [], 0, [], []⟩, ⟨7, 0, 1, 0, 1, 0, 0, 0, 0, [], [], [], 0, [], []⟩, ⟨1, 0, 1, 0, 1, 0, 0, 1, 0, [], [], [], 0, [], []⟩, ⟨2, 0, 1, 0, 1, 0, 0, 0, 0, [], [], [], 0, [], []⟩, ⟨5, 0, 0, 0, 0, 0, 0, 0, 0, [], [], [], 1, [true], []⟩, ⟨4, 0, 1, 0, 1, 0, 0, 1125899906842625, 0, [], [], [], 0, [], []⟩]
theorem may_big : MayF bigF :=
  ⟨by decide, by decide, by decide, by decide, by decide, by decide, by decide, by decide, rfl, by decide, fun _ => by decide, fun _ => ⟨by decide, by decide, by rw [show bigF.co.length = 255 from List.length_replicate ..]; decide, by rw [show bigF.co.length = 255 from List.length_replicate ..]; decide, by rw [show bigF.pay.length = 65535 from List.length_replicate ..]; decide, by rw [show bigF.pay.length = 65535 from List.length_replicate ..]; decide⟩, by decide, by decide⟩
theorem may_told : MayF toldF := (may_iff _).2 (by decide +kernel)
theorem may_far : ¬ MayF farF := fun h => absurd ((may_iff _).1 h) (by decide +kernel)
theorem may_twice : ¬ MayF twiceF := fun h => absurd ((may_iff _).1 h) (by decide +kernel)
theorem may_loose : ¬ MayF looseF := fun h => absurd ((may_iff _).1 h) (by decide +kernel)
theorem may_empty : MayF emptyF := (may_iff _).2 (by decide +kernel)
theorem may_bad : ∀ f ∈ badL, ¬ MayF f := fun f hf h => (show ∀ f ∈ badL, ¬ (GoOk f ∧ HaveOk f ∧ f = bareF f) from by decide +kernel) f hf ((may_iff _).1 h)
theorem Own.made_at {w : World} {i base n : Nat} {e : TypeId} (hh : w.heap[i]? = some (.cells (madeCells #[.int .u8 0] n) e (0, 0))) (hb : base ≤ i) (hn : n ≤ 140737488355328) : Own w base e (some ⟨i, 0, none⟩) n n (List.replicate n 0) := by
  refine ⟨⟨by simp [u8s_length], Or.inr ⟨i, n, madeCells #[.int .u8 0] n, rfl, hb, hh, Nat.le_refl _, by unfold maxLen; omega, by rw [size_madeCells]; simp, ?_⟩⟩, AllB.zeros n⟩
  rw [toList_madeCells_one, ← u8s_zeros, List.take_of_length_le (by simp [u8s_length])]
theorem three_blocks (w : World) (a b c : Array Value) (t1 t2 t3 : TypeId) :
    ((((w.alloc (.cells a t1)).alloc (.cells b t2)).alloc (.cells c t3)).drew.heap[w.heap.size]? = some (.cells a t1 (0, 0)) ∧ (((w.alloc (.cells a t1)).alloc (.cells b t2)).alloc (.cells c t3)).drew.heap[w.heap.size + 1]? = some (.cells b t2 (0, 0)) ∧ (((w.alloc (.cells a t1)).alloc (.cells b t2)).alloc (.cells c t3)).drew.heap[w.heap.size + 1 + 1]? = some (.cells c t3 (0, 0))) ∧ Keep w (((w.alloc (.cells a t1)).alloc (.cells b t2)).alloc (.cells c t3)).drew := by
  have k1 : Keep (w.alloc (.cells a t1)) (((w.alloc (.cells a t1)).alloc (.cells b t2)).alloc (.cells c t3)).drew := (((Keep.refl _).alloc _ _).alloc _ _).drew
  have k2 : Keep ((w.alloc (.cells a t1)).alloc (.cells b t2)) (((w.alloc (.cells a t1)).alloc (.cells b t2)).alloc (.cells c t3)).drew := ((Keep.refl _).alloc _ _).drew
  have k3 : Keep (((w.alloc (.cells a t1)).alloc (.cells b t2)).alloc (.cells c t3)) (((w.alloc (.cells a t1)).alloc (.cells b t2)).alloc (.cells c t3)).drew := (Keep.refl _).drew
  have h1 := heap_alloc_new w (.cells a t1)
  have h2 := heap_alloc_new (w.alloc (.cells a t1)) (.cells b t2)
  have h3 := heap_alloc_new ((w.alloc (.cells a t1)).alloc (.cells b t2)) (.cells c t3)
  rw [show (w.alloc (.cells a t1)).heap.size = w.heap.size + 1 by simp] at h2
  rw [show ((w.alloc (.cells a t1)).alloc (.cells b t2)).heap.size = w.heap.size + 1 + 1 by simp] at h3
  exact ⟨⟨(k1.block _ (by simp)).trans h1, (k2.block _ (by simp)).trans h2, (k3.block _ (by simp)).trans h3⟩, ((((Keep.refl w).alloc _ _).alloc _ _).alloc _ _).drew⟩
/-- The greatest frame's cells, its slices, its box. -/
def bigCells (m : FrM) : Array Value := #[.int .i64 1, .int .i64 63, .int .i64 0, .int .u64 1125899906842624, .int .u64 1125899906842624, .int .i64 3, .int .u64 1099511627775, .int .u64 1125899906842624, .int .u64 0, .slice m.co.A m.co.n m.co.c, .slice m.pay.A m.pay.n m.pay.c, .slice m.rk.A m.rk.n m.rk.c, .int .u64 0, .slice m.up.A m.up.n m.up.c, .slice m.hp.A m.hp.n m.hp.c]
theorem bigCells_eq (m : FrM) : frCells m bigF = bigCells m := rfl
structure BigIn (w : World) (m : FrM) : Prop where
  h : FrIn w w.heap.size m bigF
theorem BigIn.later {w w' : World} {m : FrM} (h : BigIn w m) (k : Keep w w') : BigIn w' m := ⟨h.h.later k⟩
def BigBox (w : World) (g : Nat) (m : FrM) : Prop := w.heap[g]? = some (.cells (bigCells m) 32 (0, 0))
theorem BigBox.keep {w w' : World} {g : Nat} {m : FrM} (h : BigBox w g m) (k : Keep w w') : BigBox w' g m := (k.block g (Array.getElem?_eq_some_iff.1 h).1).trans h
theorem BigBox.cell {w : World} {g : Nat} {m : FrM} (h : BigBox w g m) (i : Nat) (v : Value) (hv : (bigCells m)[i]? = some v) : w.cell? ⟨g, i, none⟩ = some v := by
  unfold World.cell?
  rw [show w.heap[g]? = _ from h]
  exact hv
theorem BigBox.cells {w : World} {g : Nat} {m : FrM} (h : BigBox w g m) :
    (w.cell? ⟨g, 0, none⟩ = some (.int .i64 1) ∧ w.cell? ⟨g, 1, none⟩ = some (.int .i64 63) ∧ w.cell? ⟨g, 2, none⟩ = some (.int .i64 0) ∧ w.cell? ⟨g, 3, none⟩ = some (.int .u64 1125899906842624) ∧ w.cell? ⟨g, 4, none⟩ = some (.int .u64 1125899906842624)) ∧
    (w.cell? ⟨g, 5, none⟩ = some (.int .i64 3) ∧ w.cell? ⟨g, 6, none⟩ = some (.int .u64 1099511627775) ∧ w.cell? ⟨g, 7, none⟩ = some (.int .u64 1125899906842624) ∧ w.cell? ⟨g, 8, none⟩ = some (.int .u64 0)) ∧
    (w.cell? ⟨g, 9, none⟩ = some (.slice m.co.A m.co.n m.co.c) ∧ w.cell? ⟨g, 10, none⟩ = some (.slice m.pay.A m.pay.n m.pay.c) ∧ w.cell? ⟨g, 11, none⟩ = some (.slice m.rk.A m.rk.n m.rk.c)) ∧
    w.cell? ⟨g, 12, none⟩ = some (.int .u64 0) ∧ w.cell? ⟨g, 13, none⟩ = some (.slice m.up.A m.up.n m.up.c) ∧ w.cell? ⟨g, 14, none⟩ = some (.slice m.hp.A m.hp.n m.hp.c) :=
  ⟨⟨h.cell 0 _ rfl, h.cell 1 _ rfl, h.cell 2 _ rfl, h.cell 3 _ rfl, h.cell 4 _ rfl⟩, ⟨h.cell 5 _ rfl, h.cell 6 _ rfl, h.cell 7 _ rfl, h.cell 8 _ rfl⟩, ⟨h.cell 9 _ rfl, h.cell 10 _ rfl, h.cell 11 _ rfl⟩, h.cell 12 _ rfl, h.cell 13 _ rfl, h.cell 14 _ rfl⟩
theorem big_box (w : World) (m : FrM) {w2 : World} (hw : w.alloc (.cells (bigCells m) 32) = w2) : Keep w w2 ∧ BigBox w2 w.heap.size m := by
  subst hw
  exact ⟨(Keep.refl w).alloc _ _, heap_alloc_new w _⟩
/-- The greatest frame in memory: its two slices and its box in whatever order. -/
theorem big_rel {w wx : World} {g g1 g2 : Nat} {C1 C2 : Array Value} (e1 : madeCells #[.int .u8 0] 255 = C1) (e2 : madeCells #[.int .u8 0] 65535 = C2) (h0 : wx.heap[g]? = some (.cells #[.int .i64 1, .int .i64 63, .int .i64 0, .int .u64 1125899906842624, .int .u64 1125899906842624, .int .i64 3, .int .u64 1099511627775, .int .u64 1125899906842624, .int .u64 0, .slice (some ⟨g1, 0, none⟩) 255 255, .slice (some ⟨g2, 0, none⟩) 65535 65535, .slice none 0 0, .int .u64 0, .slice none 0 0, .slice none 0 0] 32 (0, 0)))
    (h1 : wx.heap[g1]? = some (.cells C1 5 (0, 0))) (h2 : wx.heap[g2]? = some (.cells C2 5 (0, 0))) (k : Keep w wx) :
    ∃ (g' : Nat) (m : FrM), Value.pointer (some ⟨g, 0, none⟩) = .pointer (some ⟨g', 0, none⟩) ∧ BigBox wx g' m ∧ BigIn wx m ∧ Keep w wx := by
  subst e1 e2
  have l1 : g1 < wx.heap.size := (Array.getElem?_eq_some_iff.1 h1).1
  have l2 : g2 < wx.heap.size := (Array.getElem?_eq_some_iff.1 h2).1
  have b1 : Bytes wx wx.heap.size (some ⟨g1, 0, none⟩) 255 (List.replicate 255 0) := (Own.made_at (base := 0) h1 (Nat.zero_le _) (by omega)).bytes
  have b2 : Bytes wx wx.heap.size (some ⟨g2, 0, none⟩) 65535 (List.replicate 65535 0) := (Own.made_at (base := 0) h2 (Nat.zero_le _) (by omega)).bytes
  exact ⟨g, ⟨⟨some ⟨g1, 0, none⟩, 255, 255⟩, ⟨some ⟨g2, 0, none⟩, 65535, 65535⟩, ⟨none, 0, 0⟩, ⟨none, 0, 0⟩, ⟨none, 0, 0⟩⟩, rfl, h0,
    ⟨⟨b1, b2, RanksAt.none_ _ _ _, UpsAt.none_ _ _ _, HopsAt.none_ _ _ _, by simp [SlV.ok],
      (show I64 1 ∧ I64 63 ∧ I64 0 ∧ I64 3 by simp [I64]), (show U64 1125899906842624 ∧ U64 1125899906842624 ∧ U64 1099511627775 ∧ U64 1125899906842624 ∧ U64 0 ∧ U64 0 by simp [U64]), fun r hr => (by cases hr), fun l hl => (by cases hl)⟩⟩, k⟩
theorem put_le {f : FrV} (h : MayF f) : (putV f).length ≤ 70000 := by
  rw [put_len h]
  have := size_le h
  omega
/-- What the calls tell of the greatest frame. -/
theorem big_calls : ∃ PB : List Nat, PB.length ≤ 70000 ∧
    (∀ (m : FrM) (w : World), TabW w → BigIn w m → Calls Tryd.prog 9 #[.agg (bigCells m)] w (NewPair w PB 0)) ∧
    (∀ (n c : Nat) (A : Option Addr) (w : World), TabW w → Bytes w w.heap.size A n PB → n ≤ c → Calls Tryd.prog 11 #[.slice A n c] w fun e w' => ∃ m : FrM, e = .returned (.tuple #[.agg (bigCells m), .int .i64 0]) ∧ BigIn w' m ∧ Keep w w') ∧
    (∀ (m m' : FrM) (w : World), BigIn w m → BigIn w m' → Calls Tryd.prog 16 #[.agg (bigCells m), .agg (bigCells m')] w fun e w' => e = .returned (.bool true) ∧ Keep w w') := by
  have hp := take_put may_big
  have hl := put_le may_big
  have h0 := put_ok may_big
  refine ⟨putV bigF, hl, fun m w hT h => ?_, fun n c A w hT hb hc => ?_, fun m m' w h h' => ?_⟩
  · have := gput_any m bigF w hT h.h
    rw [h0, bigCells_eq] at this
    exact this
  · refine (gtake_any w.heap.size n c A _ w hT hb (Nat.le_refl _) (by have := hb.length; omega) hc).mono ?_
    rintro e w' ⟨m, he, hf, k⟩
    rw [hp.2] at hf
    refine ⟨m, ?_, ⟨hf⟩, k⟩
    rw [he, hp.1, hp.2, bigCells_eq]
    rfl
  · have := gsame_any m m' bigF bigF w h.h h'.h
    rw [decide_eq_true (rfl : bigF = bigF), bigCells_eq, bigCells_eq] at this
    exact this
end Go.Proofs.YtgkihfemlbhioaaDoor
