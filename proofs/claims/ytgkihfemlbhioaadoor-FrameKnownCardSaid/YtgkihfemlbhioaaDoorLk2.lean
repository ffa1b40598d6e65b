/- The closed law of frames: what lies in memory. -/
import Derived.Test.YtgkihfemlbhioaaDoorLk0
import Derived.Great.Walk
namespace Go.Proofs.YtgkihfemlbhioaaDoor
open Go.RowKit Fr Crc
set_option linter.unusedVariables false
set_option linter.unusedSimpArgs false
def zeroCells : Array Value := #[.int .i64 0, .int .i64 0, .int .i64 0, .int .u64 0, .int .u64 0, .int .i64 0, .int .u64 0, .int .u64 0, .int .u64 0, .slice none 0 0, .slice none 0 0, .slice none 0 0, .int .u64 0, .slice none 0 0, .slice none 0 0, .int .i64 0, .int .i64 0, .int .i64 0, .int .u64 0, .int .u64 0, .int .i64 0, .int .u64 0, .int .u64 0, .int .u64 0, .slice none 0 0, .slice none 0 0, .slice none 0 0, .int .u64 0, .slice none 0 0, .slice none 0 0, .int .i64 0, .int .i64 0, .int .i64 0, .int .u64 0, .int .u64 0, .int .i64 0, .int .u64 0, .int .u64 0, .int .u64 0, .slice none 0 0, .slice none 0 0, .slice none 0 0, .int .u64 0, .slice none 0 0, .slice none 0 0, .int .i64 0, .int .i64 0, .int .i64 0, .int .u64 0, .int .u64 0, .int .i64 0, .int .u64 0, .int .u64 0, .int .u64 0, .slice none 0 0, .slice none 0 0, .slice none 0 0, .int .u64 0, .slice none 0 0, .slice none 0 0, .int .i64 0, .int .i64 0, .int .i64 0, .int .u64 0, .int .u64 0, .int .i64 0, .int .u64 0, .int .u64 0, .int .u64 0, .slice none 0 0, .slice none 0 0, .slice none 0 0, .int .u64 0, .slice none 0 0, .slice none 0 0, .int .i64 0, .int .i64 0, .int .i64 0, .int .u64 0, .int .u64 0, .int .i64 0, .int .u64 0, .int .u64 0, .int .u64 0, .slice none 0 0, .slice none 0 0, .slice none 0 0, .int .u64 0, .slice none 0 0, .slice none 0 0, .int .i64 0, .int .i64 0, .int .i64 0, .int .u64 0, .int .u64 0, .int .i64 0, .int .u64 0, .int .u64 0, .int .u64 0, .slice none 0 0, .slice none 0 0, .slice none 0 0, .int .u64 0, .slice none 0 0, .slice none 0 0, .int .i64 0, .int .i64 0, .int .i64 0, .int .u64 0, .int .u64 0, .int .i64 0, .int .u64 0, .int .u64 0, .int .u64 0, .slice none 0 0, .slice none 0 0, .slice none 0 0, .int .u64 0, .slice none 0 0, .slice none 0 0, .int .i64 0, .int .i64 0, .int .i64 0, .int .u64 0, .int .u64 0, .int .i64 0, .int .u64 0, .int .u64 0, .int .u64 0, .slice none 0 0, .slice none 0 0, .slice none 0 0, .int .u64 0, .slice none 0 0, .slice none 0 0, .int .i64 0, .int .i64 0, .int .i64 0, .int .u64 0, .int .u64 0, .int .i64 0, .int .u64 0, .int .u64 0, .int .u64 0, .slice none 0 0, .slice none 0 0, .slice none 0 0, .int .u64 0, .slice none 0 0, .slice none 0 0, .int .i64 0, .int .i64 0, .int .i64 0, .int .u64 0, .int .u64 0, .int .i64 0, .int .u64 0, .int .u64 0, .int .u64 0, .slice none 0 0, .slice none 0 0, .slice none 0 0, .int .u64 0, .slice none 0 0, .slice none 0 0, .int .i64 0, .int .i64 0, .int .i64 0, .int .u64 0, .int .u64 0, .int .i64 0, .int .u64 0, .int .u64 0, .int .u64 0, .slice none 0 0, .slice none 0 0, .slice none 0 0, .int .u64 0, .slice none 0 0, .slice none 0 0]
def badCells (s : Nat) : Array Value := #[.int .i64 0, .int .i64 0, .int .i64 0, .int .u64 0, .int .u64 0, .int .i64 0, .int .u64 0, .int .u64 0, .int .u64 0, .slice none 0 0, .slice none 0 0, .slice none 0 0, .int .u64 0, .slice none 0 0, .slice none 0 0, .int .i64 4, .int .i64 0, .int .i64 0, .int .u64 0, .int .u64 1, .int .i64 0, .int .u64 0, .int .u64 0, .int .u64 0, .slice none 0 0, .slice none 0 0, .slice none 0 0, .int .u64 0, .slice none 0 0, .slice none 0 0, .int .i64 4, .int .i64 0, .int .i64 1, .int .u64 0, .int .u64 0, .int .i64 0, .int .u64 0, .int .u64 0, .int .u64 0, .slice none 0 0, .slice none 0 0, .slice none 0 0, .int .u64 0, .slice none 0 0, .slice none 0 0, .int .i64 4, .int .i64 0, .int .i64 64, .int .u64 0, .int .u64 1, .int .i64 0, .int .u64 0, .int .u64 0, .int .u64 0, .slice none 0 0, .slice none 0 0, .slice none 0 0, .int .u64 0, .slice none 0 0, .slice none 0 0, .int .i64 4, .int .i64 0, .int .i64 1, .int .u64 0, .int .u64 1, .int .i64 1, .int .u64 0, .int .u64 0, .int .u64 0, .slice none 0 0, .slice none 0 0, .slice none 0 0, .int .u64 0, .slice none 0 0, .slice none 0 0, .int .i64 3, .int .i64 0, .int .i64 1, .int .u64 0, .int .u64 1, .int .i64 0, .int .u64 0, .int .u64 0, .int .u64 0, .slice none 0 0, .slice none 0 0, .slice none 0 0, .int .u64 0, .slice none 0 0, .slice none 0 0, .int .i64 6, .int .i64 0, .int .i64 1, .int .u64 0, .int .u64 1, .int .i64 0, .int .u64 1099511627777, .int .u64 0, .int .u64 0, .slice none 0 0, .slice none 0 0, .slice none 0 0, .int .u64 0, .slice none 0 0, .slice none 0 0, .int .i64 7, .int .i64 0, .int .i64 1, .int .u64 0, .int .u64 1, .int .i64 0, .int .u64 0, .int .u64 0, .int .u64 0, .slice none 0 0, .slice none 0 0, .slice none 0 0, .int .u64 0, .slice none 0 0, .slice none 0 0, .int .i64 1, .int .i64 0, .int .i64 1, .int .u64 0, .int .u64 1, .int .i64 0, .int .u64 0, .int .u64 1, .int .u64 0, .slice none 0 0, .slice none 0 0, .slice none 0 0, .int .u64 0, .slice none 0 0, .slice none 0 0, .int .i64 2, .int .i64 0, .int .i64 1, .int .u64 0, .int .u64 1, .int .i64 0, .int .u64 0, .int .u64 0, .int .u64 0, .slice none 0 0, .slice none 0 0, .slice none 0 0, .int .u64 0, .slice none 0 0, .slice none 0 0, .int .i64 5, .int .i64 0, .int .i64 0, .int .u64 0, .int .u64 0, .int .i64 0, .int .u64 0, .int .u64 0, .int .u64 0, .slice none 0 0, .slice none 0 0, .slice none 0 0, .int .u64 1, .slice (some ⟨s, 0, none⟩) 1 1, .slice none 0 0, .int .i64 4, .int .i64 0, .int .i64 1, .int .u64 0, .int .u64 1, .int .i64 0, .int .u64 0, .int .u64 1125899906842625, .int .u64 0, .slice none 0 0, .slice none 0 0, .slice none 0 0, .int .u64 0, .slice none 0 0, .slice none 0 0]
theorem store_new {P : Program} {ops : Array Oper} {rest : List Oper} {o : Oper} {a : Act} {w : World} {Q : Exit → Act → World → Prop} {c : Array Value} {t : TypeId} (hgd : o.guard = none) (x y : Operand) (ho : o.op = .store t x y)
    (c' : Array Value) (hx : a.eval x = .pointer (some ⟨w.heap.size, 0, none⟩)) (hy : a.eval y = .agg c') (hi : (P.info? t).map (·.size) = some c'.size)
    (hold : c.size = c'.size) (h1 : c'.all (·.oneCell') = true)
    (h : wpList P ops Q rest (a.put o.dst undef) (w.alloc (.cells c' t))) : wpList P ops Q (o :: rest) a (w.alloc (.cells c t)) := by
  refine wpList_store_row hgd t x y ho w.heap.size c' hx hy t c (heap_alloc_new _ _) hi hold h1 ?_
  have e : (w.alloc (.cells c t)).setRow w.heap.size c' = w.alloc (.cells c' t) := by
    simp only [World.setRow, World.alloc]
    congr 1
    apply Array.ext_getElem?
    intro i
    rw [Array.getElem?_modify]
    by_cases h : w.heap.size = i
    · subst h; simp
    · have h' : ¬ i = w.heap.size := fun e => h e.symm
      simp [h, h', Array.getElem?_push]
  rw [e]; exact h
def At15 (w : World) (g o : Nat) (m : FrM) (f : FrV) : Prop :=
    (w.cell? ⟨g, o, none⟩ = some (.int .i64 f.kind) ∧ w.cell? ⟨g, o + 1, none⟩ = some (.int .i64 f.src) ∧ w.cell? ⟨g, o + 2, none⟩ = some (.int .i64 f.dst) ∧ w.cell? ⟨g, o + 3, none⟩ = some (.int .u64 (f.ep : Int)) ∧ w.cell? ⟨g, o + 4, none⟩ = some (.int .u64 (f.life : Int))) ∧
    (w.cell? ⟨g, o + 5, none⟩ = some (.int .i64 f.flow) ∧ w.cell? ⟨g, o + 6, none⟩ = some (.int .u64 (f.gen : Int)) ∧ w.cell? ⟨g, o + 7, none⟩ = some (.int .u64 (f.seq : Int)) ∧ w.cell? ⟨g, o + 8, none⟩ = some (.int .u64 (f.ford : Int))) ∧
    (w.cell? ⟨g, o + 9, none⟩ = some (.slice m.co.A m.co.n m.co.c) ∧ w.cell? ⟨g, o + 10, none⟩ = some (.slice m.pay.A m.pay.n m.pay.c) ∧ w.cell? ⟨g, o + 11, none⟩ = some (.slice m.rk.A m.rk.n m.rk.c)) ∧
    w.cell? ⟨g, o + 12, none⟩ = some (.int .u64 (f.tep : Int)) ∧ w.cell? ⟨g, o + 13, none⟩ = some (.slice m.up.A m.up.n m.up.c) ∧ w.cell? ⟨g, o + 14, none⟩ = some (.slice m.hp.A m.hp.n m.hp.c)
theorem at15_of {w : World} {g o : Nat} {m : FrM} {f : FrV} {cs : Array Value} {t : TypeId} (hg : w.heap[g]? = some (.cells cs t (0, 0))) (h : ∀ i, i < 15 → cs[o + i]? = (frCells m f)[i]?) : At15 w g o m f := by
  have c : ∀ (i : Nat) (v : Value), i < 15 → (frCells m f)[i]? = some v → w.cell? ⟨g, o + i, none⟩ = some v := fun i v hi hv => by
    unfold World.cell?
    rw [hg]
    exact (h i hi).trans hv
  exact ⟨⟨c 0 _ (by decide) rfl, c 1 _ (by decide) rfl, c 2 _ (by decide) rfl, c 3 _ (by decide) rfl, c 4 _ (by decide) rfl⟩, ⟨c 5 _ (by decide) rfl, c 6 _ (by decide) rfl, c 7 _ (by decide) rfl, c 8 _ (by decide) rfl⟩, ⟨c 9 _ (by decide) rfl, c 10 _ (by decide) rfl, c 11 _ (by decide) rfl⟩, c 12 _ (by decide) rfl, c 13 _ (by decide) rfl, c 14 _ (by decide) rfl⟩
/-- Twelve frames that may not be, in one array. -/
theorem bad_at (w w2 : World) (hw : (w.alloc (.cells #[.bool true] 4)).alloc (.cells (badCells w.heap.size) 54) = w2) :
    Keep w w2 ∧ ∀ j, j < 12 → ∃ (m : FrM) (f : FrV), ¬ MayF f ∧ FrIn w2 w2.heap.size m f ∧ ∀ wr, Keep w2 wr → At15 wr (w.heap.size + 1) (j * 15) m f := by
  subst hw
  have h1 := heap_alloc_new w (.cells #[.bool true] 4)
  have h2 := heap_alloc_new (w.alloc (.cells #[.bool true] 4)) (.cells (badCells w.heap.size) 54)
  rw [show (w.alloc (.cells #[.bool true] 4)).heap.size = w.heap.size + 1 by simp] at h2
  have g1 : ((w.alloc (.cells #[.bool true] 4)).alloc (.cells (badCells w.heap.size) 54)).heap[w.heap.size]? = some (.cells #[.bool true] 4 (0, 0)) := (((Keep.refl (w.alloc (.cells #[.bool true] 4))).alloc _ _).block _ (by simp)).trans h1
  generalize hW : (w.alloc (.cells #[.bool true] 4)).alloc (.cells (badCells w.heap.size) 54) = W at *
  have hl : w.heap.size < W.heap.size := (Array.getElem?_eq_some_iff.1 g1).1
  refine ⟨by rw [← hW]; exact ((Keep.refl w).alloc _ _).alloc _ _, fun j hj => ?_⟩
  have fin : ∀ (m : FrM) (f : FrV), f ∈ badL → FrIn W W.heap.size m f → (∀ i, i < 15 → (badCells w.heap.size)[j * 15 + i]? = (frCells m f)[i]?) → ∃ (m : FrM) (f : FrV), ¬ MayF f ∧ FrIn W W.heap.size m f ∧ ∀ wr, Keep W wr → At15 wr (w.heap.size + 1) (j * 15) m f := fun m f hf hin hc =>
    ⟨m, f, may_bad f hf, hin, fun wr kr => at15_of ((kr.block _ (Array.getElem?_eq_some_iff.1 h2).1).trans h2) hc⟩
  have pl : ∀ f : FrV, f.co = [] → f.pay = [] → f.ranks = [] → f.up = [] → f.hops = [] → (I64 f.kind ∧ I64 f.src ∧ I64 f.dst ∧ I64 f.flow) → (U64 f.ep ∧ U64 f.life ∧ U64 f.gen ∧ U64 f.seq ∧ U64 f.ford ∧ U64 f.tep) → FrIn W W.heap.size noM f := fun f h1 h2 h3 h4 h5 hi hn => fr_plain W _ h1 h2 h3 h4 h5 hi hn
  have cs : ∀ (m : FrM) (f : FrV), (∀ i, i < 15 → (badCells w.heap.size)[j * 15 + i]? = (frCells m f)[i]?) ↔ (∀ i, i < 15 → (badCells w.heap.size)[j * 15 + i]? = (frCells m f)[i]?) := fun m f => Iff.rfl
  match j, hj with
  | 0, _ =>
    refine fin noM ⟨0, 0, 0, 0, 0, 0, 0, 0, 0, [], [], [], 0, [], []⟩ (by simp [badL]) (pl _ rfl rfl rfl rfl rfl (by simp [I64]) (by simp [U64])) ?_
    exact fun i hi => match i, hi with
      | 0, _ => rfl
      | 1, _ => rfl
      | 2, _ => rfl
      | 3, _ => rfl
      | 4, _ => rfl
      | 5, _ => rfl
      | 6, _ => rfl
      | 7, _ => rfl
      | 8, _ => rfl
      | 9, _ => rfl
      | 10, _ => rfl
      | 11, _ => rfl
      | 12, _ => rfl
      | 13, _ => rfl
      | 14, _ => rfl
      | i + 15, h => absurd h (by omega)
  | 1, _ =>
    refine fin noM ⟨4, 0, 0, 0, 1, 0, 0, 0, 0, [], [], [], 0, [], []⟩ (by simp [badL]) (pl _ rfl rfl rfl rfl rfl (by simp [I64]) (by simp [U64])) ?_
    exact fun i hi => match i, hi with
      | 0, _ => rfl
      | 1, _ => rfl
      | 2, _ => rfl
      | 3, _ => rfl
      | 4, _ => rfl
      | 5, _ => rfl
      | 6, _ => rfl
      | 7, _ => rfl
      | 8, _ => rfl
      | 9, _ => rfl
      | 10, _ => rfl
      | 11, _ => rfl
      | 12, _ => rfl
      | 13, _ => rfl
      | 14, _ => rfl
      | i + 15, h => absurd h (by omega)
  | 2, _ =>
    refine fin noM ⟨4, 0, 1, 0, 0, 0, 0, 0, 0, [], [], [], 0, [], []⟩ (by simp [badL]) (pl _ rfl rfl rfl rfl rfl (by simp [I64]) (by simp [U64])) ?_
    exact fun i hi => match i, hi with
      | 0, _ => rfl
      | 1, _ => rfl
      | 2, _ => rfl
      | 3, _ => rfl
      | 4, _ => rfl
      | 5, _ => rfl
      | 6, _ => rfl
      | 7, _ => rfl
      | 8, _ => rfl
      | 9, _ => rfl
      | 10, _ => rfl
      | 11, _ => rfl
      | 12, _ => rfl
      | 13, _ => rfl
      | 14, _ => rfl
      | i + 15, h => absurd h (by omega)
  | 3, _ =>
    refine fin noM ⟨4, 0, 64, 0, 1, 0, 0, 0, 0, [], [], [], 0, [], []⟩ (by simp [badL]) (pl _ rfl rfl rfl rfl rfl (by simp [I64]) (by simp [U64])) ?_
    exact fun i hi => match i, hi with
      | 0, _ => rfl
      | 1, _ => rfl
      | 2, _ => rfl
      | 3, _ => rfl
      | 4, _ => rfl
      | 5, _ => rfl
      | 6, _ => rfl
      | 7, _ => rfl
      | 8, _ => rfl
      | 9, _ => rfl
      | 10, _ => rfl
      | 11, _ => rfl
      | 12, _ => rfl
      | 13, _ => rfl
      | 14, _ => rfl
      | i + 15, h => absurd h (by omega)
  | 4, _ =>
    refine fin noM ⟨4, 0, 1, 0, 1, 1, 0, 0, 0, [], [], [], 0, [], []⟩ (by simp [badL]) (pl _ rfl rfl rfl rfl rfl (by simp [I64]) (by simp [U64])) ?_
    exact fun i hi => match i, hi with
      | 0, _ => rfl
      | 1, _ => rfl
      | 2, _ => rfl
      | 3, _ => rfl
      | 4, _ => rfl
      | 5, _ => rfl
      | 6, _ => rfl
      | 7, _ => rfl
      | 8, _ => rfl
      | 9, _ => rfl
      | 10, _ => rfl
      | 11, _ => rfl
      | 12, _ => rfl
      | 13, _ => rfl
      | 14, _ => rfl
      | i + 15, h => absurd h (by omega)
  | 5, _ =>
    refine fin noM ⟨3, 0, 1, 0, 1, 0, 0, 0, 0, [], [], [], 0, [], []⟩ (by simp [badL]) (pl _ rfl rfl rfl rfl rfl (by simp [I64]) (by simp [U64])) ?_
    exact fun i hi => match i, hi with
      | 0, _ => rfl
      | 1, _ => rfl
      | 2, _ => rfl
      | 3, _ => rfl
      | 4, _ => rfl
      | 5, _ => rfl
      | 6, _ => rfl
      | 7, _ => rfl
      | 8, _ => rfl
      | 9, _ => rfl
      | 10, _ => rfl
      | 11, _ => rfl
      | 12, _ => rfl
      | 13, _ => rfl
      | 14, _ => rfl
      | i + 15, h => absurd h (by omega)
  | 6, _ =>
    refine fin noM ⟨6, 0, 1, 0, 1, 0, 1099511627777, 0, 0, [], [], [], 0, [], []⟩ (by simp [badL]) (pl _ rfl rfl rfl rfl rfl (by simp [I64]) (by simp [U64])) ?_
    exact fun i hi => match i, hi with
      | 0, _ => rfl
      | 1, _ => rfl
      | 2, _ => rfl
      | 3, _ => rfl
      | 4, _ => rfl
      | 5, _ => rfl
      | 6, _ => rfl
      | 7, _ => rfl
      | 8, _ => rfl
      | 9, _ => rfl
      | 10, _ => rfl
      | 11, _ => rfl
      | 12, _ => rfl
      | 13, _ => rfl
      | 14, _ => rfl
      | i + 15, h => absurd h (by omega)
  | 7, _ =>
    refine fin noM ⟨7, 0, 1, 0, 1, 0, 0, 0, 0, [], [], [], 0, [], []⟩ (by simp [badL]) (pl _ rfl rfl rfl rfl rfl (by simp [I64]) (by simp [U64])) ?_
    exact fun i hi => match i, hi with
      | 0, _ => rfl
      | 1, _ => rfl
      | 2, _ => rfl
      | 3, _ => rfl
      | 4, _ => rfl
      | 5, _ => rfl
      | 6, _ => rfl
      | 7, _ => rfl
      | 8, _ => rfl
      | 9, _ => rfl
      | 10, _ => rfl
      | 11, _ => rfl
      | 12, _ => rfl
      | 13, _ => rfl
      | 14, _ => rfl
      | i + 15, h => absurd h (by omega)
  | 8, _ =>
    refine fin noM ⟨1, 0, 1, 0, 1, 0, 0, 1, 0, [], [], [], 0, [], []⟩ (by simp [badL]) (pl _ rfl rfl rfl rfl rfl (by simp [I64]) (by simp [U64])) ?_
    exact fun i hi => match i, hi with
      | 0, _ => rfl
      | 1, _ => rfl
      | 2, _ => rfl
      | 3, _ => rfl
      | 4, _ => rfl
      | 5, _ => rfl
      | 6, _ => rfl
      | 7, _ => rfl
      | 8, _ => rfl
      | 9, _ => rfl
      | 10, _ => rfl
      | 11, _ => rfl
      | 12, _ => rfl
      | 13, _ => rfl
      | 14, _ => rfl
      | i + 15, h => absurd h (by omega)
  | 9, _ =>
    refine fin noM ⟨2, 0, 1, 0, 1, 0, 0, 0, 0, [], [], [], 0, [], []⟩ (by simp [badL]) (pl _ rfl rfl rfl rfl rfl (by simp [I64]) (by simp [U64])) ?_
    exact fun i hi => match i, hi with
      | 0, _ => rfl
      | 1, _ => rfl
      | 2, _ => rfl
      | 3, _ => rfl
      | 4, _ => rfl
      | 5, _ => rfl
      | 6, _ => rfl
      | 7, _ => rfl
      | 8, _ => rfl
      | 9, _ => rfl
      | 10, _ => rfl
      | 11, _ => rfl
      | 12, _ => rfl
      | 13, _ => rfl
      | 14, _ => rfl
      | i + 15, h => absurd h (by omega)
  | 10, _ =>
    refine fin ⟨⟨none, 0, 0⟩, ⟨none, 0, 0⟩, ⟨none, 0, 0⟩, ⟨some ⟨w.heap.size, 0, none⟩, 1, 1⟩, ⟨none, 0, 0⟩⟩ ⟨5, 0, 0, 0, 0, 0, 0, 0, 0, [], [], [], 1, [true], []⟩ (by simp [badL]) ⟨Bytes.nil _ _ _, Bytes.nil _ _ _, RanksAt.none_ _ _ _, ⟨rfl, fun _ => ⟨w.heap.size, 0, rfl, hl, fun i x hx => ?_⟩⟩, HopsAt.none_ _ _ _, by simp [SlV.ok], by simp [I64], by simp [U64], fun r hr => by simp at hr, fun l hl => by simp at hl⟩ ?_
    · match i, hx with
      | 0, hx => simp at hx; subst hx; unfold World.cell?; rw [g1]; rfl
      | i + 1, hx => simp at hx
    exact fun i hi => match i, hi with
      | 0, _ => rfl
      | 1, _ => rfl
      | 2, _ => rfl
      | 3, _ => rfl
      | 4, _ => rfl
      | 5, _ => rfl
      | 6, _ => rfl
      | 7, _ => rfl
      | 8, _ => rfl
      | 9, _ => rfl
      | 10, _ => rfl
      | 11, _ => rfl
      | 12, _ => rfl
      | 13, _ => rfl
      | 14, _ => rfl
      | i + 15, h => absurd h (by omega)
  | 11, _ =>
    refine fin noM ⟨4, 0, 1, 0, 1, 0, 0, 1125899906842625, 0, [], [], [], 0, [], []⟩ (by simp [badL]) (pl _ rfl rfl rfl rfl rfl (by simp [I64]) (by simp [U64])) ?_
    exact fun i hi => match i, hi with
      | 0, _ => rfl
      | 1, _ => rfl
      | 2, _ => rfl
      | 3, _ => rfl
      | 4, _ => rfl
      | 5, _ => rfl
      | 6, _ => rfl
      | 7, _ => rfl
      | 8, _ => rfl
      | 9, _ => rfl
      | 10, _ => rfl
      | 11, _ => rfl
      | 12, _ => rfl
      | 13, _ => rfl
      | 14, _ => rfl
      | i + 15, h => absurd h (by omega)
  | j + 12, h => exact absurd h (by omega)
end Go.Proofs.YtgkihfemlbhioaaDoor
