/- The landed frames: a topology in a box; edges and their lists, as they are read. -/
import Derived.Test.YtgkihfemlbhioaaDoorGr
import Derived.Test.YtgkihfemlbhioaaDoorGap
import Derived.Test.YtgkihfemlbhioaaDoorFbx
namespace Go.Proofs.YtgkihfemlbhioaaDoor
open Go.RowKit Fr
set_option linter.unusedVariables false
set_option linter.unusedSimpArgs false
theorem infoTp : (Tryd.prog.info? 30).map (·.size) = some 3 := by kernel_rfl
theorem resTopo : Tryd.f53.results = #[.cell 4 30] := by kernel_rfl
/-- A topology's box, as a block. -/
def ToBlk (w : World) (g te : Nat) (u h : SlV) : Prop := w.heap[g]? = some (.cells (topoCells te u h) 30 (0, 0))
theorem ToBlk.cells {w : World} {g te : Nat} {u h : SlV} (b : ToBlk w g te u h) : w.cell? ⟨g, 0, none⟩ = some (.int .u64 (te : Int)) ∧ w.cell? ⟨g, 1, none⟩ = some (.slice u.A u.n u.c) ∧ w.cell? ⟨g, 2, none⟩ = some (.slice h.A h.n h.c) := by
  unfold ToBlk at b
  refine ⟨?_, ?_, ?_⟩ <;> simp [World.cell?, b, topoCells]
theorem ToBlk.free {w : World} {g te : Nat} {u h : SlV} (b : ToBlk w g te u h) (i : Nat) : w.frozen? ⟨g, i, none⟩ = false := by
  unfold ToBlk at b
  simp [World.frozen?, b]
theorem ToBlk.lt {w : World} {g te : Nat} {u h : SlV} (b : ToBlk w g te u h) : g < w.heap.size := (Array.getElem?_eq_some_iff.1 b).1
theorem ToBlk.turned {w w' : World} {g te : Nat} {u h : SlV} {G : Nat → Prop} (b : ToBlk w g te u h) (k : Turned G w w') (hn : ¬ G g) : ToBlk w' g te u h :=
  (k.block g b.lt hn).trans b
theorem ToBlk.up {w : World} {g te : Nat} {u h : SlV} (b : ToBlk w g te u h) (A : Option Addr) (n c : Nat) : ToBlk (w.setCell ⟨g, 1, none⟩ (.slice A n c)) g te ⟨A, n, c⟩ h := by
  unfold ToBlk at *
  simp [World.setCell, Array.getElem?_modify, b, topoCells]
theorem ToBlk.hp {w : World} {g te : Nat} {u h : SlV} (b : ToBlk w g te u h) (A : Option Addr) (n c : Nat) : ToBlk (w.setCell ⟨g, 2, none⟩ (.slice A n c)) g te u ⟨A, n, c⟩ := by
  unfold ToBlk at *
  simp [World.setCell, Array.getElem?_modify, b, topoCells]
/-- Many things, some of which are read. -/
def ManyS {α : Type} (p : Pa α) (o : Option (List Nat)) (c j : Nat) (es : List α) (oj : Option (List Nat)) : Prop := ∀ (β : Type) (R : List α → Pa β), goO o ((manyP p c).bind R) = goO oj ((manyP p (c - j)).bind fun l => R (es ++ l))
theorem ManyS.start {α : Type} (p : Pa α) (o : Option (List Nat)) (c : Nat) : ManyS p o c 0 [] o := fun β R => rfl
theorem ManyS.step {α : Type} {p : Pa α} {o oj oj' : Option (List Nat)} {c j : Nat} {es : List α} {a : α} (h : ManyS p o c j es oj) (hj : j < c) (hp : ∀ (β : Type) (Q : α → Pa β), goO oj (p.bind Q) = goO oj' (Q a)) : ManyS p o c (j + 1) (es ++ [a]) oj' := fun β R => by
  rw [h β R, show c - j = (c - (j + 1)) + 1 by omega, go_many_succ, hp]
  simp only [List.append_assoc, List.singleton_append]
theorem ManyS.end_ {α : Type} {p : Pa α} {o oj : Option (List Nat)} {c : Nat} {es : List α} (h : ManyS p o c c es oj) (β : Type) (R : List α → Pa β) : goO o ((manyP p c).bind R) = goO oj (R es) := by
  rw [h β R, Nat.sub_self, go_many_zero, List.append_nil]
/-- Lists of edges, each a row of its own; K are the blocks that are finished. -/
structure Hps (w : World) (M b6 te : Nat) (u : SlV) (up : List Bool) (K : Nat → Prop) (h : SlV) (S : List SlV) (acc : List (List (Int × Int))) : Prop where
  bx : ToBlk w b6 te u h
  upr : w.ownsRow M 4 1 (.slice u.A u.n u.c) u.n (up.map Value.bool)
  upk : ∀ b, (Value.slice u.A u.n u.c).ownBlock = some b → K b
  row : w.ownsRow M 51 1 (.slice h.A h.n h.c) h.n (S.map SlV.val)
  len : acc.length = h.n
  each : ∀ (j : Nat) (s : SlV) (r : List (Int × Int)), S[j]? = some s → acc[j]? = some r → w.ownsRow M 57 2 (.slice s.A s.n s.c) s.n (r.flatMap edgeCells) ∧ r.length = s.n ∧ s.n ≤ 255 ∧ ∀ b, (Value.slice s.A s.n s.c).ownBlock = some b → K b
  kk : ∀ b, K b → M ≤ b ∧ b ≠ b6 ∧ (Value.slice h.A h.n h.c).ownBlock ≠ some b
  b6M : b6 < M
  klt : ∀ b, K b → b < w.heap.size
section
variable {w w' : World} {M b6 te : Nat} {u h : SlV} {up : List Bool} {K : Nat → Prop} {S : List SlV} {acc : List (List (Int × Int))}
theorem Hps.slen (p : Hps w M b6 te u up K h S acc) : S.length = h.n := by have := p.row.1; simpa using this
theorem Hps.turned {G : Nat → Prop} (p : Hps w M b6 te u up K h S acc) (k : Turned G w w') (hG : ∀ b, G b → ¬ K b ∧ b ≠ b6 ∧ (Value.slice h.A h.n h.c).ownBlock ≠ some b) : Hps w' M b6 te u up K h S acc :=
  ⟨p.bx.turned k (fun e => (hG _ e).2.1 rfl), k.owns p.upr (fun b hb e => (hG b e).1 (p.upk b hb)), p.upk, k.owns p.row (fun b hb e => (hG b e).2.2 hb), p.len,
    fun j s r hs hr => ⟨k.owns (p.each j s r hs hr).1 (fun b hb e => (hG b e).1 ((p.each j s r hs hr).2.2.2 b hb)), (p.each j s r hs hr).2⟩, p.kk, p.b6M, fun b hb => Nat.lt_of_lt_of_le (p.klt b hb) k.size⟩
theorem Hps.keep (p : Hps w M b6 te u up K h S acc) (k : Keep w w') : Hps w' M b6 te u up K h S acc := p.turned (G := fun _ => False) (Turned.of_keep k) (fun _ e => e.elim)
/-- A list of edges more. -/
theorem Hps.push {w2 : World} {s : SlV} {r : List (Int × Int)} {A2 : Option Addr} {c2 : Nat} (p : Hps w M b6 te u up K h S acc) (hr : w.ownsRow M 57 2 (.slice s.A s.n s.c) s.n (r.flatMap edgeCells)) (hl : r.length = s.n) (h255 : s.n ≤ 255)
    (hd : ∀ b, (Value.slice s.A s.n s.c).ownBlock = some b → ¬ K b ∧ b ≠ b6 ∧ (Value.slice h.A h.n h.c).ownBlock ≠ some b) (g2 : w.grownBy w2 (Value.slice h.A h.n h.c).ownBlock)
    (row2 : w2.ownsRow M 51 1 (.slice A2 (h.n + 1) c2) (h.n + 1) (S.map SlV.val ++ [.slice s.A s.n s.c])) (own2 : (Value.slice A2 (h.n + 1) c2).ownBlock = (Value.slice h.A h.n h.c).ownBlock ∨ (Value.slice A2 (h.n + 1) c2).ownBlock = some w.heap.size) :
    ToBlk w2 b6 te u h ∧ Hps (w2.setCell ⟨b6, 2, none⟩ (.slice A2 (h.n + 1) c2)) M b6 te u up (fun b => K b ∨ (Value.slice s.A s.n s.c).ownBlock = some b) ⟨A2, h.n + 1, c2⟩ (S ++ [s]) (acc ++ [r]) := by
  have hown : ∀ b, (Value.slice h.A h.n h.c).ownBlock = some b → M ≤ b := fun b hb => (World.ownsRow.lt p.row b hb).1
  have T : Turned (fun b => (Value.slice h.A h.n h.c).ownBlock = some b) w w2 := Turned.of_grown g2 (fun i e => e)
  have bx2 : ToBlk w2 b6 te u h := p.bx.turned T (fun e => by have := hown _ e; have := p.b6M; omega)
  have T2 : Turned (fun b => b = b6) w2 (w2.setCell ⟨b6, 2, none⟩ (.slice A2 (h.n + 1) c2)) := Turned.set w2 _ _ rfl
  have hne6 : ∀ {base : Nat} {e size n c : Nat} {A : Option Addr} {l : List Value} {wx : World}, wx.ownsRow M e size (.slice A n c) n l → ∀ b, (Value.slice A n c).ownBlock = some b → ¬ b = b6 := fun hx b hb e => by
    have := (World.ownsRow.lt hx b hb).1; have := p.b6M; omega
  refine ⟨bx2, bx2.hp A2 _ c2, T2.owns (T.owns p.upr (fun b hb e => (p.kk b (p.upk b hb)).2.2 e)) (hne6 (base := 0) p.upr), fun b hb => Or.inl (p.upk b hb), ?_, by rw [List.length_append, p.len]; rfl, ?_, ?_, p.b6M, ?_⟩
  · rw [List.map_append]
    exact T2.owns row2 (hne6 (base := 0) row2)
  · intro j s' r' hs hr'
    rcases Nat.lt_or_ge j S.length with hj | hj
    · rw [List.getElem?_append_left hj] at hs
      rw [List.getElem?_append_left (by rw [p.len, ← p.slen]; exact hj)] at hr'
      obtain ⟨q1, q2, q3, q4⟩ := p.each j s' r' hs hr'
      exact ⟨T2.owns (T.owns q1 (fun b hb e => (p.kk b (q4 b hb)).2.2 e)) (hne6 (base := 0) q1), q2, q3, fun b hb => Or.inl (q4 b hb)⟩
    · rw [List.getElem?_append_right hj] at hs
      have hja : acc.length ≤ j := by rw [p.len, ← p.slen]; exact hj
      rw [List.getElem?_append_right hja] at hr'
      have e1 : j - S.length = 0 := by
        rcases Nat.lt_or_ge (j - S.length) 1 with h1 | h1
        · omega
        · rw [List.getElem?_eq_none (by simpa using h1)] at hs; cases hs
      have e2 : j - acc.length = 0 := by rw [p.len, ← p.slen]; exact e1
      rw [e1] at hs
      rw [e2] at hr'
      simp at hs hr'
      subst hs; subst hr'
      exact ⟨T2.owns (T.owns hr (fun b hb e => (hd b hb).2.2 e)) (hne6 (base := 0) hr), hl, h255, fun b hb => Or.inr hb⟩
  · intro b hb
    have hlt : ∀ b, (K b ∨ (Value.slice s.A s.n s.c).ownBlock = some b) → M ≤ b ∧ b ≠ b6 ∧ (Value.slice h.A h.n h.c).ownBlock ≠ some b := fun b hb => by
      rcases hb with e | e
      · exact p.kk b e
      · exact ⟨(World.ownsRow.lt hr b e).1, (hd b e).2⟩
    obtain ⟨q1, q2, q3⟩ := hlt b hb
    refine ⟨q1, q2, fun e => ?_⟩
    rcases own2 with e2 | e2
    · exact q3 (e2 ▸ e)
    · -- a new block is none of the finished ones
      have hbl : b < w.heap.size := by
        rcases hb with e3 | e3
        · exact p.klt b e3
        · exact (World.ownsRow.lt hr b e3).2
      rw [e2] at e
      injection e with e
      omega
  · intro b hb
    have hs2 : (w2.setCell ⟨b6, 2, none⟩ (.slice A2 (h.n + 1) c2)).heap.size = w2.heap.size := by simp [World.setCell]
    rw [hs2]
    rcases hb with e | e
    · exact Nat.lt_of_lt_of_le (p.klt b e) g2.size
    · exact Nat.lt_of_lt_of_le (World.ownsRow.lt hr b e).2 g2.size
/-- What they are, at the end: in blocks from M on. -/
theorem Hps.ends (p : Hps w M b6 te u up K h S acc) : UpsAt w w.heap.size u.A u.n up ∧ HopsAt w w.heap.size h.A h.n acc ∧ (∀ G w', Turned G w w' → (∀ b, G b → b < M) → UpsAt w' w'.heap.size u.A u.n up ∧ HopsAt w' w'.heap.size h.A h.n acc) := by
  have main : ∀ G w', Turned G w w' → (∀ b, G b → b < M) → UpsAt w' w'.heap.size u.A u.n up ∧ HopsAt w' w'.heap.size h.A h.n acc := fun G w' k hG => by
    have ne : ∀ {e size n c : Nat} {A : Option Addr} {l : List Value}, w.ownsRow M e size (.slice A n c) n l → ∀ b, (Value.slice A n c).ownBlock = some b → ¬ G b := fun hx b hb e => by
      have := (World.ownsRow.lt hx b hb).1; have := hG b e; omega
    refine ⟨ups_owned (k.owns p.upr (ne p.upr)), S, p.slen, p.len, fun i s r hs hr => ?_, fun hn => ?_⟩
    · obtain ⟨q1, q2, q3, _⟩ := p.each i s r hs hr
      exact ⟨edges_owned (k.owns q1 (ne q1)) q2, by omega, owns_le q1⟩
    · obtain ⟨g, hA, h1, h2, h3⟩ := owns_at (k.owns p.row (ne p.row)) hn
      refine ⟨g, 0, hA, h2, fun i s hs => ?_⟩
      have hi : i < S.length := by
        rcases Nat.lt_or_ge i S.length with h1 | h1
        · exact h1
        · rw [List.getElem?_eq_none h1] at hs; cases hs
      rw [Nat.zero_add, h3 i (by rw [← p.slen]; omega), List.getElem?_map, hs]
      rfl
  exact ⟨(main (fun _ => False) w (Turned.refl _ _) (fun _ e => e.elim)).1, (main (fun _ => False) w (Turned.refl _ _) (fun _ e => e.elim)).2, main⟩
end
end Go.Proofs.YtgkihfemlbhioaaDoor
