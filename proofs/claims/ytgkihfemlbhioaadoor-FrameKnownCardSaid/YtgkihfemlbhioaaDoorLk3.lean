/- The closed law of frames: ranks and edges in memory. -/
import Derived.Test.YtgkihfemlbhioaaDoorLk2
namespace Go.Proofs.YtgkihfemlbhioaaDoor
open Go.RowKit Fr Crc
set_option linter.unusedVariables false
set_option linter.unusedSimpArgs false
theorem ranks1 {w : World} {g : Nat} {t : TypeId} {a : Nat} {b : Int} (hg : w.heap[g]? = some (.cells #[.int .u64 (a : Int), .int .i64 b] t (0, 0))) : RanksAt w w.heap.size (some ⟨g, 0, none⟩) 1 [(a, b)] := by
  refine ⟨rfl, fun r hr => by simp at hr; subst hr; rfl, fun _ => ⟨g, 0, rfl, (Array.getElem?_eq_some_iff.1 hg).1, fun i r j v hr hv => ?_⟩⟩
  match i, j, hr, hv with
  | 0, 0, hr, hv => simp at hr; subst hr; simp at hv; subst hv; unfold World.cell?; rw [hg]; rfl
  | 0, 1, hr, hv => simp at hr; subst hr; simp at hv; subst hv; unfold World.cell?; rw [hg]; rfl
  | 0, j + 2, hr, hv => simp at hr; subst hr; simp at hv
  | i + 1, j, hr, hv => simp at hr
theorem ranks2 {w : World} {g : Nat} {t : TypeId} {a a' : Nat} {b b' : Int} (hg : w.heap[g]? = some (.cells #[.int .u64 (a : Int), .int .i64 b, .int .u64 (a' : Int), .int .i64 b'] t (0, 0))) : RanksAt w w.heap.size (some ⟨g, 0, none⟩) 2 [(a, b), (a', b')] := by
  refine ⟨rfl, fun r hr => by simp at hr; rcases hr with rfl | rfl <;> rfl, fun _ => ⟨g, 0, rfl, (Array.getElem?_eq_some_iff.1 hg).1, fun i r j v hr hv => ?_⟩⟩
  match i, j, hr, hv with
  | 0, 0, hr, hv => simp at hr; subst hr; simp at hv; subst hv; unfold World.cell?; rw [hg]; rfl
  | 0, 1, hr, hv => simp at hr; subst hr; simp at hv; subst hv; unfold World.cell?; rw [hg]; rfl
  | 1, 0, hr, hv => simp at hr; subst hr; simp at hv; subst hv; unfold World.cell?; rw [hg]; rfl
  | 1, 1, hr, hv => simp at hr; subst hr; simp at hv; subst hv; unfold World.cell?; rw [hg]; rfl
  | 0, j + 2, hr, hv => simp at hr; subst hr; simp at hv
  | 1, j + 2, hr, hv => simp at hr; subst hr; simp at hv
  | i + 2, j, hr, hv => simp at hr
theorem edges1 {w : World} {g : Nat} {t : TypeId} {a b : Int} (hg : w.heap[g]? = some (.cells #[.int .i64 a, .int .i64 b] t (0, 0))) : EdgesAt w w.heap.size (some ⟨g, 0, none⟩) 1 [(a, b)] := by
  refine ⟨rfl, fun r hr => by simp at hr; subst hr; rfl, fun _ => ⟨g, 0, rfl, (Array.getElem?_eq_some_iff.1 hg).1, fun i r j v hr hv => ?_⟩⟩
  match i, j, hr, hv with
  | 0, 0, hr, hv => simp at hr; subst hr; simp at hv; subst hv; unfold World.cell?; rw [hg]; rfl
  | 0, 1, hr, hv => simp at hr; subst hr; simp at hv; subst hv; unfold World.cell?; rw [hg]; rfl
  | 0, j + 2, hr, hv => simp at hr; subst hr; simp at hv
  | i + 1, j, hr, hv => simp at hr
/-- A Feedback with its ranks. -/
def feedM (g n : Nat) : FrM := ⟨⟨none, 0, 0⟩, ⟨none, 0, 0⟩, ⟨some ⟨g, 0, none⟩, n, n⟩, ⟨none, 0, 0⟩, ⟨none, 0, 0⟩⟩
def feedF (l : List (Nat × Int)) : FrV := ⟨2, 0, 1, 0, 1, 0, 1099511627774, 1, 0, [], [], l, 0, [], []⟩
theorem ok0 : SlV.ok ⟨none, 0, 0⟩ := ⟨Nat.zero_le _, Nat.le_refl _⟩
theorem fr_feed {w : World} {g n : Nat} {l : List (Nat × Int)} (h : RanksAt w w.heap.size (some ⟨g, 0, none⟩) n l) (hn : n ≤ 2) (hl : ∀ r ∈ l, U64 r.1 ∧ I64 r.2) : FrIn w w.heap.size (feedM g n) (feedF l) :=
  ⟨Bytes.nil _ _ _, Bytes.nil _ _ _, h, UpsAt.none_ _ _ _, HopsAt.none_ _ _ _, ⟨ok0, ok0, ⟨by show n ≤ _; omega, Nat.le_refl _⟩, ok0, ok0⟩, by simp [feedF, I64], by simp [feedF, U64], hl, fun l hl => by simp [feedF] at hl⟩
theorem hops_one {w : World} {g h : Nat} {t t' : TypeId} {a b : Int} (hg : w.heap[g]? = some (.cells #[.int .i64 a, .int .i64 b] t (0, 0))) (hh : w.heap[h]? = some (.cells #[.slice (some ⟨g, 0, none⟩) 1 1] t' (0, 0))) : HopsAt w w.heap.size (some ⟨h, 0, none⟩) 1 [[(a, b)]] := by
  refine ⟨[⟨some ⟨g, 0, none⟩, 1, 1⟩], rfl, rfl, fun i s r hs hr => ?_, fun _ => ⟨h, 0, rfl, (Array.getElem?_eq_some_iff.1 hh).1, fun i s hs => ?_⟩⟩
  · match i, hs, hr with
    | 0, hs, hr => simp at hs hr; subst hs; subst hr; exact ⟨edges1 hg, by dsimp only; decide, Nat.le_refl _⟩
    | i + 1, hs, hr => simp at hs
  · match i, hs with
    | 0, hs => simp at hs; subst hs; unfold World.cell?; rw [hh]; rfl
    | i + 1, hs => simp at hs
theorem hops_two {w : World} {h c : Nat} {A : Option Addr} {t' : TypeId} (hh : w.heap[h]? = some (.cells #[.slice none 0 0, .slice A 0 c] t' (0, 0))) : HopsAt w w.heap.size (some ⟨h, 0, none⟩) 2 [[], []] := by
  refine ⟨[⟨none, 0, 0⟩, ⟨A, 0, c⟩], rfl, rfl, fun i s r hs hr => ?_, fun _ => ⟨h, 0, rfl, (Array.getElem?_eq_some_iff.1 hh).1, fun i s hs => ?_⟩⟩
  · match i, hs, hr with
    | 0, hs, hr => simp at hs hr; subst hs; subst hr; exact ⟨EdgesAt.none_ _ _ _, Nat.zero_le _, Nat.le_refl _⟩
    | 1, hs, hr => simp at hs hr; subst hs; subst hr; exact ⟨EdgesAt.none_ _ _ _, Nat.zero_le _, Nat.zero_le _⟩
    | i + 2, hs, hr => simp at hs
  · match i, hs with
    | 0, hs => simp at hs; subst hs; unfold World.cell?; rw [hh]; rfl
    | 1, hs => simp at hs; subst hs; unfold World.cell?; rw [hh]; rfl
    | i + 2, hs => simp at hs
/-- A Member with other hops. -/
def hopM (m : FrM) (g n : Nat) : FrM := ⟨m.co, m.pay, m.rk, m.up, ⟨some ⟨g, 0, none⟩, n, n⟩⟩
def hopF (l : List (List (Int × Int))) : FrV := ⟨5, 2, 2, 0, 0, 0, 0, 0, 0, [], [], [], 1, [true, false, true], l⟩
theorem fr_hop {w : World} {m : FrM} {g n : Nat} {l : List (List (Int × Int))} (hm : FrIn w w.heap.size m memF) (h : HopsAt w w.heap.size (some ⟨g, 0, none⟩) n l) (hn : n ≤ 2) (hl : ∀ e ∈ l, ∀ r ∈ e, I64 r.1 ∧ I64 r.2) : FrIn w w.heap.size (hopM m g n) (hopF l) :=
  ⟨hm.co, hm.pay, hm.rk, hm.up, h, ⟨hm.oks.1, hm.oks.2.1, hm.oks.2.2.1, hm.oks.2.2.2.1, ⟨by show n ≤ _; omega, Nat.le_refl _⟩⟩, by simp [hopF, I64], by simp [hopF, U64], fun r hr => by simp [hopF] at hr, hl⟩
/-- The Feedback that is told. -/
theorem told_at (w : World) {w2 : World} (hw : (w.alloc (.cells #[.int .u64 1099511627775, .int .i64 255] 53)).alloc (.cells (frCells (feedM w.heap.size 1) toldF) 32) = w2) :
    Keep w w2 ∧ FrBox w2 (w.heap.size + 1) 32 (feedM w.heap.size 1) toldF ∧ FrIn w2 w2.heap.size (feedM w.heap.size 1) toldF := by
  have h2 := heap_alloc_new (w.alloc (.cells #[.int .u64 1099511627775, .int .i64 255] 53)) (.cells (frCells (feedM w.heap.size 1) toldF) 32)
  rw [show (w.alloc (.cells #[.int .u64 1099511627775, .int .i64 255] 53)).heap.size = w.heap.size + 1 by simp] at h2
  have g1 : ((w.alloc (.cells #[.int .u64 1099511627775, .int .i64 255] 53)).alloc (.cells (frCells (feedM w.heap.size 1) toldF) 32)).heap[w.heap.size]? = some (.cells #[.int .u64 1099511627775, .int .i64 255] 53 (0, 0)) :=
    (((Keep.refl (w.alloc (.cells #[.int .u64 1099511627775, .int .i64 255] 53))).alloc _ _).block _ (by simp)).trans (heap_alloc_new w _)
  rw [hw] at h2 g1
  exact ⟨by rw [← hw]; exact ((Keep.refl w).alloc _ _).alloc _ _, h2, fr_feed (ranks1 (a := 1099511627775) (b := 255) g1) (by decide) (fun r hr => by simp at hr; subst hr; exact ⟨by simp [U64], by simp [I64]⟩)⟩
/-- A box, and behind it its ranks. -/
theorem feed_at (w : World) {cs : Array Value} {n : Nat} {l : List (Nat × Int)} {w2 : World} (hw : (w.alloc (.cells (frCells (feedM (w.heap.size + 1) n) (feedF l)) 32)).alloc (.cells cs 53) = w2)
    (hr : ∀ (W : World) (g : Nat), W.heap[g]? = some (.cells cs 53 (0, 0)) → RanksAt W W.heap.size (some ⟨g, 0, none⟩) n l) (hn : n ≤ 2) (hl : ∀ r ∈ l, U64 r.1 ∧ I64 r.2) :
    Keep w w2 ∧ FrBox w2 w.heap.size 32 (feedM (w.heap.size + 1) n) (feedF l) ∧ FrIn w2 w2.heap.size (feedM (w.heap.size + 1) n) (feedF l) := by
  have h2 := heap_alloc_new (w.alloc (.cells (frCells (feedM (w.heap.size + 1) n) (feedF l)) 32)) (.cells cs 53)
  rw [show (w.alloc (.cells (frCells (feedM (w.heap.size + 1) n) (feedF l)) 32)).heap.size = w.heap.size + 1 by simp] at h2
  have g1 := (((Keep.refl (w.alloc (.cells (frCells (feedM (w.heap.size + 1) n) (feedF l)) 32))).alloc cs 53).block w.heap.size (by simp)).trans (heap_alloc_new w _)
  rw [hw] at h2 g1
  exact ⟨by rw [← hw]; exact ((Keep.refl w).alloc _ _).alloc _ _, g1, fr_feed (hr _ _ h2) hn hl⟩
/-- A box, and behind it its edges and its lists of them. -/
theorem hop_at (w : World) {m : FrM} {es hs : Array Value} {n : Nat} {l : List (List (Int × Int))} {w2 : World} (hm : FrIn w w.heap.size m memF)
    (hw : ((w.alloc (.cells (frCells (hopM m (w.heap.size + 1 + 1) n) (hopF l)) 32)).alloc (.cells es 57)).alloc (.cells hs 51) = w2)
    (hr : ∀ (W : World), W.heap[w.heap.size + 1]? = some (.cells es 57 (0, 0)) → W.heap[w.heap.size + 1 + 1]? = some (.cells hs 51 (0, 0)) → HopsAt W W.heap.size (some ⟨w.heap.size + 1 + 1, 0, none⟩) n l) (hn : n ≤ 2) (hl : ∀ e ∈ l, ∀ r ∈ e, I64 r.1 ∧ I64 r.2) :
    Keep w w2 ∧ FrBox w2 w.heap.size 32 (hopM m (w.heap.size + 1 + 1) n) (hopF l) ∧ FrIn w2 w2.heap.size (hopM m (w.heap.size + 1 + 1) n) (hopF l) := by
  obtain ⟨⟨a0, a1, a2⟩, _⟩ := three_blocks w (frCells (hopM m (w.heap.size + 1 + 1) n) (hopF l)) es hs 32 57 51
  rw [hw] at a0 a1 a2
  have k : Keep w w2 := by rw [← hw]; exact (((Keep.refl w).alloc _ _).alloc _ _).alloc _ _
  exact ⟨k, a0, fr_hop (hm.later k) (hr _ a1 a2) hn hl⟩
end Go.Proofs.YtgkihfemlbhioaaDoor
