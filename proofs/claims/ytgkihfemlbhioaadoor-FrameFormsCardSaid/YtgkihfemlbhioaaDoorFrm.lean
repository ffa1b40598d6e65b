/- A frame in memory: fifteen cells, and what its slices hold. -/
import Derived.Test.YtgkihfemlbhioaaDoorFrp
import Derived.Test.YtgkihfemlbhioaaDoorStructs
namespace Go.Proofs.YtgkihfemlbhioaaDoor
open Go.RowKit Fr
/-- Ranks, edges, marks, lists of edges. -/
def RanksAt (w : World) (B : Nat) (A : Option Addr) (n : Nat) (l : List (Nat × Int)) : Prop := FieldsAt w B A n 2 (l.map fun r => [.int .u64 (r.1 : Int), .int .i64 r.2])
def EdgesAt (w : World) (B : Nat) (A : Option Addr) (n : Nat) (l : List (Int × Int)) : Prop := FieldsAt w B A n 2 (l.map fun e => [.int .i64 e.1, .int .i64 e.2])
def UpsAt (w : World) (B : Nat) (A : Option Addr) (n : Nat) (l : List Bool) : Prop :=
  l.length = n ∧ (0 < n → ∃ b off, A = some ⟨b, off, none⟩ ∧ b < B ∧ ∀ (i : Nat) (x : Bool), l[i]? = some x → w.cell? ⟨b, off + i, none⟩ = some (.bool x))
/-- A slice in memory, as a value. -/
structure SlV where
  A : Option Addr
  n : Nat
  c : Nat
def SlV.val (s : SlV) : Value := .slice s.A s.n s.c
def HopsAt (w : World) (B : Nat) (A : Option Addr) (n : Nat) (l : List (List (Int × Int))) : Prop :=
  ∃ S : List SlV, S.length = n ∧ l.length = n ∧ (∀ (i : Nat) (s : SlV) (r : List (Int × Int)), S[i]? = some s → l[i]? = some r → EdgesAt w B s.A s.n r ∧ s.n ≤ 140737488351232 ∧ s.n ≤ s.c) ∧
    (0 < n → ∃ b off, A = some ⟨b, off, none⟩ ∧ b < B ∧ ∀ (i : Nat) (s : SlV), S[i]? = some s → w.cell? ⟨b, off + i, none⟩ = some s.val)
section
variable {w w' : World} {B B' n : Nat} {A : Option Addr}
theorem FieldsAt.mono {k : Nat} {l : List (List Value)} (h : FieldsAt w B A n k l) (hB : B ≤ B') : FieldsAt w B' A n k l :=
  ⟨h.1, h.2.1, fun hn => by
    obtain ⟨b, off, e, hb, hc⟩ := h.2.2 hn
    exact ⟨b, off, e, by omega, hc⟩⟩
theorem RanksAt.length {l : List (Nat × Int)} (h : RanksAt w B A n l) : l.length = n := by have := h.1; simpa using this
theorem EdgesAt.length {l : List (Int × Int)} (h : EdgesAt w B A n l) : l.length = n := by have := h.1; simpa using this
theorem UpsAt.length {l : List Bool} (h : UpsAt w B A n l) : l.length = n := h.1
theorem HopsAt.length {l : List (List (Int × Int))} (h : HopsAt w B A n l) : l.length = n := by obtain ⟨_, _, h, _⟩ := h; exact h
theorem RanksAt.keep {l : List (Nat × Int)} (h : RanksAt w B A n l) (hB : B ≤ w.heap.size) (k : Keep w w') : RanksAt w' B A n l := FieldsAt.keep h hB k
theorem EdgesAt.keep {l : List (Int × Int)} (h : EdgesAt w B A n l) (hB : B ≤ w.heap.size) (k : Keep w w') : EdgesAt w' B A n l := FieldsAt.keep h hB k
theorem RanksAt.mono {l : List (Nat × Int)} (h : RanksAt w B A n l) (hB : B ≤ B') : RanksAt w B' A n l := FieldsAt.mono h hB
theorem EdgesAt.mono {l : List (Int × Int)} (h : EdgesAt w B A n l) (hB : B ≤ B') : EdgesAt w B' A n l := FieldsAt.mono h hB
theorem UpsAt.keep {l : List Bool} (h : UpsAt w B A n l) (hB : B ≤ w.heap.size) (k : Keep w w') : UpsAt w' B A n l := ⟨h.1, fun hn => by
  obtain ⟨b, off, e, hb, hc⟩ := h.2 hn
  exact ⟨b, off, e, hb, fun i x hx => (World.cell?_of_block (k.block b (by omega))).trans (hc i x hx)⟩⟩
theorem UpsAt.mono {l : List Bool} (h : UpsAt w B A n l) (hB : B ≤ B') : UpsAt w B' A n l := ⟨h.1, fun hn => by
  obtain ⟨b, off, e, hb, hc⟩ := h.2 hn
  exact ⟨b, off, e, by omega, hc⟩⟩
theorem HopsAt.keep {l : List (List (Int × Int))} (h : HopsAt w B A n l) (hB : B ≤ w.heap.size) (k : Keep w w') : HopsAt w' B A n l := by
  obtain ⟨S, h1, h2, h3, h4⟩ := h
  refine ⟨S, h1, h2, fun i s r hs hr => ⟨(h3 i s r hs hr).1.keep hB k, (h3 i s r hs hr).2⟩, fun hn => ?_⟩
  obtain ⟨b, off, e, hb, hc⟩ := h4 hn
  exact ⟨b, off, e, hb, fun i s hs => (World.cell?_of_block (k.block b (by omega))).trans (hc i s hs)⟩
theorem HopsAt.mono {l : List (List (Int × Int))} (h : HopsAt w B A n l) (hB : B ≤ B') : HopsAt w B' A n l := by
  obtain ⟨S, h1, h2, h3, h4⟩ := h
  refine ⟨S, h1, h2, fun i s r hs hr => ⟨(h3 i s r hs hr).1.mono hB, (h3 i s r hs hr).2⟩, fun hn => ?_⟩
  obtain ⟨b, off, e, hb, hc⟩ := h4 hn
  exact ⟨b, off, e, by omega, hc⟩
theorem RanksAt.at_ {l : List (Nat × Int)} (h : RanksAt w B A n l) {i : Nat} {r : Nat × Int} (hi : l[i]? = some r) : ∃ b off, A = some ⟨b, off, none⟩ ∧ b < B ∧ w.cell? ⟨b, off + i * 2, none⟩ = some (.int .u64 (r.1 : Int)) ∧ w.cell? ⟨b, off + (i * 2 + 1), none⟩ = some (.int .i64 r.2) := by
  have hl : i < n := by
    rw [← h.length]
    rcases Nat.lt_or_ge i l.length with h1 | h1
    · exact h1
    · rw [List.getElem?_eq_none h1] at hi; cases hi
  obtain ⟨b, off, e, hb, hc⟩ := h.2.2 (by omega)
  have hm : (l.map fun r : Nat × Int => [Value.int .u64 (r.1 : Int), .int .i64 r.2])[i]? = some [.int .u64 (r.1 : Int), .int .i64 r.2] := by rw [List.getElem?_map, hi]; rfl
  exact ⟨b, off, e, hb, hc i _ 0 _ hm rfl, hc i _ 1 _ hm rfl⟩
theorem EdgesAt.at_ {l : List (Int × Int)} (h : EdgesAt w B A n l) {i : Nat} {r : Int × Int} (hi : l[i]? = some r) : ∃ b off, A = some ⟨b, off, none⟩ ∧ b < B ∧ w.cell? ⟨b, off + i * 2, none⟩ = some (.int .i64 r.1) ∧ w.cell? ⟨b, off + (i * 2 + 1), none⟩ = some (.int .i64 r.2) := by
  have hl : i < n := by
    rw [← h.length]
    rcases Nat.lt_or_ge i l.length with h1 | h1
    · exact h1
    · rw [List.getElem?_eq_none h1] at hi; cases hi
  obtain ⟨b, off, e, hb, hc⟩ := h.2.2 (by omega)
  have hm : (l.map fun r : Int × Int => [Value.int .i64 r.1, .int .i64 r.2])[i]? = some [.int .i64 r.1, .int .i64 r.2] := by rw [List.getElem?_map, hi]; rfl
  exact ⟨b, off, e, hb, hc i _ 0 _ hm rfl, hc i _ 1 _ hm rfl⟩
theorem UpsAt.at_ {l : List Bool} (h : UpsAt w B A n l) {i : Nat} {x : Bool} (hi : l[i]? = some x) : ∃ b off, A = some ⟨b, off, none⟩ ∧ b < B ∧ w.cell? ⟨b, off + i, none⟩ = some (.bool x) := by
  have hl : i < n := by
    rw [← h.length]
    rcases Nat.lt_or_ge i l.length with h1 | h1
    · exact h1
    · rw [List.getElem?_eq_none h1] at hi; cases hi
  obtain ⟨b, off, e, hb, hc⟩ := h.2 (by omega)
  exact ⟨b, off, e, hb, hc i x hi⟩
theorem HopsAt.at_ {l : List (List (Int × Int))} (h : HopsAt w B A n l) {i : Nat} {r : List (Int × Int)} (hi : l[i]? = some r) : ∃ (b off : Nat) (s : SlV), A = some ⟨b, off, none⟩ ∧ b < B ∧ w.cell? ⟨b, off + i, none⟩ = some (.slice s.A s.n s.c) ∧ EdgesAt w B s.A s.n r ∧ s.n ≤ 140737488351232 ∧ s.n ≤ s.c := by
  obtain ⟨S, h1, h2, h3, h4⟩ := h
  have hl : i < n := by
    rw [← h2]
    rcases Nat.lt_or_ge i l.length with h1 | h1
    · exact h1
    · rw [List.getElem?_eq_none h1] at hi; cases hi
  obtain ⟨b, off, e, hb, hc⟩ := h4 (by omega)
  have hs : S[i]? = some S[i] := List.getElem?_eq_getElem (by omega)
  exact ⟨b, off, S[i], e, hb, hc i _ hs, h3 i _ r hs hi⟩
theorem UpsAt.none_ (w : World) (B : Nat) (A : Option Addr) : UpsAt w B A 0 [] := ⟨rfl, fun h => absurd h (by omega)⟩
theorem RanksAt.none_ (w : World) (B : Nat) (A : Option Addr) : RanksAt w B A 0 [] := ⟨rfl, fun r hr => by simp at hr, fun h => absurd h (by omega)⟩
theorem EdgesAt.none_ (w : World) (B : Nat) (A : Option Addr) : EdgesAt w B A 0 [] := ⟨rfl, fun r hr => by simp at hr, fun h => absurd h (by omega)⟩
theorem HopsAt.none_ (w : World) (B : Nat) (A : Option Addr) : HopsAt w B A 0 [] := ⟨[], rfl, rfl, fun i s r hs _ => by simp at hs, fun h => absurd h (by omega)⟩
end
/-- Where a frame's slices lie. -/
structure FrM where
  co : SlV
  pay : SlV
  rk : SlV
  up : SlV
  hp : SlV
def noM : FrM := ⟨⟨none, 0, 0⟩, ⟨none, 0, 0⟩, ⟨none, 0, 0⟩, ⟨none, 0, 0⟩, ⟨none, 0, 0⟩⟩
/-- The fifteen cells. -/
def frCells (m : FrM) (f : FrV) : Array Value := #[.int .i64 f.kind, .int .i64 f.src, .int .i64 f.dst, .int .u64 (f.ep : Int), .int .u64 (f.life : Int), .int .i64 f.flow, .int .u64 (f.gen : Int), .int .u64 (f.seq : Int), .int .u64 (f.ford : Int),
  .slice m.co.A m.co.n m.co.c, .slice m.pay.A m.pay.n m.pay.c, .slice m.rk.A m.rk.n m.rk.c, .int .u64 (f.tep : Int), .slice m.up.A m.up.n m.up.c, .slice m.hp.A m.hp.n m.hp.c]
def I64 (z : Int) : Prop := -9223372036854775808 ≤ z ∧ z ≤ 9223372036854775807
def U64 (n : Nat) : Prop := n < 18446744073709551616
def SlV.ok (s : SlV) : Prop := s.n ≤ 140737488351232 ∧ s.n ≤ s.c
/-- The slices hold what the frame has; its numbers are those of their types. -/
structure FrIn (w : World) (B : Nat) (m : FrM) (f : FrV) : Prop where
  co : Bytes w B m.co.A m.co.n f.co
  pay : Bytes w B m.pay.A m.pay.n f.pay
  rk : RanksAt w B m.rk.A m.rk.n f.ranks
  up : UpsAt w B m.up.A m.up.n f.up
  hp : HopsAt w B m.hp.A m.hp.n f.hops
  oks : m.co.ok ∧ m.pay.ok ∧ m.rk.ok ∧ m.up.ok ∧ m.hp.ok
  ints : I64 f.kind ∧ I64 f.src ∧ I64 f.dst ∧ I64 f.flow
  nats : U64 f.ep ∧ U64 f.life ∧ U64 f.gen ∧ U64 f.seq ∧ U64 f.ford ∧ U64 f.tep
  rks : ∀ r ∈ f.ranks, U64 r.1 ∧ I64 r.2
  eds : ∀ l ∈ f.hops, ∀ e ∈ l, I64 e.1 ∧ I64 e.2
theorem FrIn.keep {w w' : World} {B : Nat} {m : FrM} {f : FrV} (h : FrIn w B m f) (hB : B ≤ w.heap.size) (k : Keep w w') : FrIn w' B m f :=
  ⟨h.co.keep hB k, h.pay.keep hB k, h.rk.keep hB k, h.up.keep hB k, h.hp.keep hB k, h.oks, h.ints, h.nats, h.rks, h.eds⟩
theorem FrIn.mono {w : World} {B B' : Nat} {m : FrM} {f : FrV} (h : FrIn w B m f) (hB : B ≤ B') : FrIn w B' m f :=
  ⟨h.co.mono hB, h.pay.mono hB, h.rk.mono hB, h.up.mono hB, h.hp.mono hB, h.oks, h.ints, h.nats, h.rks, h.eds⟩
theorem FrIn.later {w w' : World} {m : FrM} {f : FrV} (h : FrIn w w.heap.size m f) (k : Keep w w') : FrIn w' w'.heap.size m f := (h.keep (Nat.le_refl _) k).mono k.size
theorem FrIn.bytes {w : World} {B : Nat} {m : FrM} {f : FrV} (h : FrIn w B m f) : BytesF f := ⟨h.co.all, h.pay.all⟩
theorem FrIn.none_ (w : World) (B : Nat) : FrIn w B noM noF :=
  ⟨Bytes.nil _ _ _, Bytes.nil _ _ _, RanksAt.none_ _ _ _, UpsAt.none_ _ _ _, HopsAt.none_ _ _ _, by simp [noM, SlV.ok], by simp [noF, I64], by simp [noF, U64], fun r hr => by simp [noF] at hr, fun l hl => by simp [noF] at hl⟩
/-- A box that holds a frame. -/
def FrBox (w : World) (g : Nat) (t : TypeId) (m : FrM) (f : FrV) : Prop := w.heap[g]? = some (.cells (frCells m f) t (0, 0))
theorem FrBox.keep {w w' : World} {g : Nat} {t : TypeId} {m : FrM} {f : FrV} (h : FrBox w g t m f) (k : Keep w w') : FrBox w' g t m f := (k.block g (Array.getElem?_eq_some_iff.1 h).1).trans h
theorem FrBox.cell {w : World} {g : Nat} {t : TypeId} {m : FrM} {f : FrV} (h : FrBox w g t m f) (i : Nat) (v : Value) (hv : (frCells m f)[i]? = some v) : w.cell? ⟨g, i, none⟩ = some v := by
  unfold World.cell?
  rw [show w.heap[g]? = _ from h]
  exact hv
/-- All its cells. -/
theorem FrBox.cells {w : World} {g : Nat} {t : TypeId} {m : FrM} {f : FrV} (h : FrBox w g t m f) :
    (w.cell? ⟨g, 0, none⟩ = some (.int .i64 f.kind) ∧ w.cell? ⟨g, 1, none⟩ = some (.int .i64 f.src) ∧ w.cell? ⟨g, 2, none⟩ = some (.int .i64 f.dst) ∧ w.cell? ⟨g, 3, none⟩ = some (.int .u64 (f.ep : Int)) ∧ w.cell? ⟨g, 4, none⟩ = some (.int .u64 (f.life : Int))) ∧
    (w.cell? ⟨g, 5, none⟩ = some (.int .i64 f.flow) ∧ w.cell? ⟨g, 6, none⟩ = some (.int .u64 (f.gen : Int)) ∧ w.cell? ⟨g, 7, none⟩ = some (.int .u64 (f.seq : Int)) ∧ w.cell? ⟨g, 8, none⟩ = some (.int .u64 (f.ford : Int))) ∧
    (w.cell? ⟨g, 9, none⟩ = some (.slice m.co.A m.co.n m.co.c) ∧ w.cell? ⟨g, 10, none⟩ = some (.slice m.pay.A m.pay.n m.pay.c) ∧ w.cell? ⟨g, 11, none⟩ = some (.slice m.rk.A m.rk.n m.rk.c)) ∧
    w.cell? ⟨g, 12, none⟩ = some (.int .u64 (f.tep : Int)) ∧ w.cell? ⟨g, 13, none⟩ = some (.slice m.up.A m.up.n m.up.c) ∧ w.cell? ⟨g, 14, none⟩ = some (.slice m.hp.A m.hp.n m.hp.c) :=
  ⟨⟨h.cell 0 _ rfl, h.cell 1 _ rfl, h.cell 2 _ rfl, h.cell 3 _ rfl, h.cell 4 _ rfl⟩, ⟨h.cell 5 _ rfl, h.cell 6 _ rfl, h.cell 7 _ rfl, h.cell 8 _ rfl⟩, ⟨h.cell 9 _ rfl, h.cell 10 _ rfl, h.cell 11 _ rfl⟩, h.cell 12 _ rfl, h.cell 13 _ rfl, h.cell 14 _ rfl⟩
theorem FrBox.new {w : World} {g : Nat} (hg : w.heap.size = g) (t : TypeId) (m : FrM) (f : FrV) : FrBox (w.alloc (.cells (frCells m f) t)) g t m f := by
  subst hg; exact heap_alloc_new w _
end Go.Proofs.YtgkihfemlbhioaaDoor
