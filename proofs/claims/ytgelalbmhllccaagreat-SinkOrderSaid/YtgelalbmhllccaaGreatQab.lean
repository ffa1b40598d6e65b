/- A window's numbers, plainly: what is in it, what goes, slots. -/
import Derived.Test.YtgelalbmhllccaaGreatQaa
import Derived.Laws.Slices
import Derived.Test.YtgelalbmhllccaaGreatProg
import Derived.WalkKit
import Derived.WalkSpells
import Derived.Lib.Hide
import Derived.Deep.RegionHeld3
import Derived.Deep.AppendLies
import Derived.Deep.QuietTactic
import Derived.BigQuiet
import Derived.Maps.AppendAt
import Derived.OneCell
import GoSem.Claim
import Derived.Laws.BitsAllLaws
import Derived.Laws.MakeOwn
import Derived.Tactics
import Derived.Laws.Rows
import Derived.StillTailTactics
namespace Go.Proofs.YtgelalbmhllccaaGreat
set_option linter.unusedVariables false
/-- All numbers end here. -/
def topN : Nat := 1099511627776
/-- Where a window of base b and width k ends. -/
def endN (b k : Nat) : Nat := min (b + k) topN
/-- What is in it, rising. -/
def winL (b k : Nat) : List Nat := List.range' b (endN b k - b)
def winIn (b k n : Nat) : Bool := decide (b ≤ n) && decide (n < endN b k)
/-- What is in it, and not in another one of the same width. -/
def winGone (b k c : Nat) : List Nat := (winL b k).filter fun n => !winIn c k n
theorem winL_length (b k : Nat) : (winL b k).length = endN b k - b := by simp [winL]
theorem winL_le (b k : Nat) : (winL b k).length ≤ k := by rw [winL_length, endN]; omega
theorem winIn_iff (b k n : Nat) : winIn b k n = true ↔ b ≤ n ∧ n < endN b k := by simp [winIn]
theorem winIn_mem (b k n : Nat) : winIn b k n = decide (n ∈ winL b k) := by
  rw [Bool.eq_iff_iff, winIn_iff, decide_eq_true_eq, winL, List.mem_range'_1]
  omega
/-- The number behind the first i. -/
theorem first_succ (b i : Nat) : List.range' b (i + 1) = List.range' b i ++ [b + i] := by
  rw [List.range'_concat, Nat.one_mul]
/-- What has gone of the first i. -/
def goneN (b k c i : Nat) : List Nat := (List.range' b i).filter fun n => !winIn c k n
theorem goneN_in (b k c i : Nat) (h : winIn c k (b + i) = true) : goneN b k c (i + 1) = goneN b k c i := by
  rw [goneN, first_succ, List.filter_append, ← goneN]; simp [h]
theorem goneN_out (b k c i : Nat) (h : winIn c k (b + i) = false) : goneN b k c (i + 1) = goneN b k c i ++ [b + i] := by
  rw [goneN, first_succ, List.filter_append, ← goneN]; simp [h]
theorem goneN_le (b k c i : Nat) : (goneN b k c i).length ≤ i := by
  refine Nat.le_trans (List.length_filter_le _ _) ?_
  simp
theorem winGone_le (b k c : Nat) : (winGone b k c).length ≤ k := Nat.le_trans (List.length_filter_le _ _) (winL_le b k)
end Go.Proofs.YtgelalbmhllccaaGreat
/- What a sink releases, plainly. -/
namespace Go.Proofs.YtgelalbmhllccaaGreat
set_option linter.unusedVariables false
/-- A generation that can be solved. -/
def rdyN (g k b : Nat) (L : Nat → List (List Nat)) (n : Nat) : Prop := winIn b k n = true ∧ (L n).length = g
instance (g k b : Nat) (L : Nat → List (List Nat)) (n : Nat) : Decidable (rdyN g k b L n) := by unfold rdyN; infer_instance
/-- Its symbols. -/
def symN (g : Nat) (B : List (List Nat)) : List (List Nat) := B.map (List.drop g)
/-- From generation n on the chunks l are released, up to n'; br: there it is broken. -/
structure RelT (g s k b : Nat) (L : Nat → List (List Nat)) (n : Nat) (l : List (List Nat)) (n' : Nat) (br : Bool) : Prop where
  j : n' = n + l.length
  at_ : ∀ i, i < l.length → rdyN g k b L (n + i) ∧ takeE g s (symN g (L (n + i))) = 0 ∧ l.getD i [] = takeV g s (symN g (L (n + i)))
  bad : br = true → rdyN g k b L n' ∧ takeE g s (symN g (L n')) ≠ 0
  end_ : br = false → ¬ rdyN g k b L n'
namespace RelT
variable {g s k b n n' m' : Nat} {L : Nat → List (List Nat)} {l m : List (List Nat)} {br bq : Bool}
theorem le (h : RelT g s k b L n l n' br) (h' : RelT g s k b L n m m' bq) : m.length ≤ l.length := by
  rcases Nat.lt_or_ge l.length m.length with e | e
  · obtain ⟨h1, h2, -⟩ := h'.at_ l.length e
    rw [← h.j] at h1 h2
    cases br with
    | true => exact absurd h2 (h.bad rfl).2
    | false => exact absurd h1 (h.end_ rfl)
  · exact e
/-- No two answers. -/
theorem only (h : RelT g s k b L n l n' br) (h' : RelT g s k b L n m m' bq) : l = m ∧ n' = m' ∧ br = bq := by
  have e := Nat.le_antisymm (h'.le h) (h.le h')
  have hn : n' = m' := by rw [h.j, h'.j, e]
  refine ⟨List.ext_getElem e fun i h1 h2 => ?_, hn, ?_⟩
  · have e1 := (h.at_ i h1).2.2
    have e2 := (h'.at_ i h2).2.2
    simp only [List.getD, List.getElem?_eq_getElem h1, Option.getD_some] at e1
    simp only [List.getD, List.getElem?_eq_getElem h2, Option.getD_some] at e2
    rw [e1, e2]
  · subst hn
    cases br with
    | true => cases bq with
      | true => rfl
      | false => exact absurd (h.bad rfl).1 (h'.end_ rfl)
    | false => cases bq with
      | true => exact absurd (h'.bad rfl).1 (h.end_ rfl)
      | false => rfl
end RelT
/-- On the way: the chunks l so far. -/
structure RelI (g s k b : Nat) (L : Nat → List (List Nat)) (n : Nat) (l : List (List Nat)) (n' : Nat) : Prop where
  j : n' = n + l.length
  at_ : ∀ i, i < l.length → rdyN g k b L (n + i) ∧ takeE g s (symN g (L (n + i))) = 0 ∧ l.getD i [] = takeV g s (symN g (L (n + i)))
namespace RelI
variable {g s k b n n' : Nat} {L : Nat → List (List Nat)} {l : List (List Nat)}
theorem start (g s k b : Nat) (L : Nat → List (List Nat)) (n : Nat) : RelI g s k b L n [] n := ⟨by simp, fun i hi => by simp at hi⟩
theorem more (h : RelI g s k b L n l n') (h1 : rdyN g k b L n') (h2 : takeE g s (symN g (L n')) = 0) : RelI g s k b L n (l ++ [takeV g s (symN g (L n'))]) (n' + 1) := ⟨by rw [h.j, List.length_append]; simp; omega, fun i hi => by
  rw [List.length_append] at hi
  by_cases e : i < l.length
  · obtain ⟨a, c, d⟩ := h.at_ i e
    exact ⟨a, c, by rw [← d]; simp [List.getD, List.getElem?_append_left e]⟩
  · obtain rfl : i = l.length := by simp at hi; omega
    rw [← h.j]
    exact ⟨h1, h2, by simp [List.getD]⟩⟩
theorem bad (h : RelI g s k b L n l n') (h1 : rdyN g k b L n') (h2 : takeE g s (symN g (L n')) ≠ 0) : RelT g s k b L n l n' true := ⟨h.j, h.at_, fun _ => ⟨h1, h2⟩, fun e => (by cases e)⟩
theorem done (h : RelI g s k b L n l n') (h1 : ¬ rdyN g k b L n') : RelT g s k b L n l n' false := ⟨h.j, h.at_, fun e => (by cases e), fun _ => h1⟩
/-- No more than a window is wide. -/
theorem few (h : RelI g s k b L n l n') : l.length ≤ k := by
  rcases Nat.eq_zero_or_pos l.length with e | e
  · omega
  · have h1 := (h.at_ 0 e).1.1
    have h2 := (h.at_ (l.length - 1) (by omega)).1.1
    rw [winIn_iff] at h1 h2
    have h3 : endN b k ≤ b + k := by unfold endN; omega
    omega
theorem top (h : RelI g s k b L n l n') (hn : n ≤ topN) : n' ≤ topN := by
  rcases Nat.eq_zero_or_pos l.length with e | e
  · rw [h.j, e]; exact hn
  · have h2 := (h.at_ (l.length - 1) (by omega)).1.1
    rw [winIn_iff] at h2
    have h3 : endN b k ≤ topN := by unfold endN; omega
    rw [h.j]; omega
end RelI
theorem rdy_top {g k b n : Nat} {L : Nat → List (List Nat)} (h : rdyN g k b L n) : n < topN := by
  have h1 := h.1
  rw [winIn_iff] at h1
  have h3 : endN b k ≤ topN := by unfold endN; omega
  omega
end Go.Proofs.YtgelalbmhllccaaGreat
/- Slices of slices of bytes in new memory: appended to, as rows. -/
namespace Go.Proofs.YtgelalbmhllccaaGreat
open Go.RowKit

/-- New memory: a slice of slices in a block from base on. -/
def OwnRows (w : World) (base : Nat) (e : TypeId) (A : Option Addr) (n c : Nat) (rs : List RowV) : Prop :=
  w.ownsRow base e 1 (.slice A n c) n (rs.map RowV.val)
namespace OwnRows
variable {w w' : World} {base n c : Nat} {e : TypeId} {A : Option Addr} {rs : List RowV}
theorem length (h : OwnRows w base e A n c rs) : rs.length = n := by have := h.1; simpa using this
theorem none_ (w : World) (base : Nat) (e : TypeId) : OwnRows w base e none 0 0 [] := World.ownsRow_nil w base e 1
theorem keep (h : OwnRows w base e A n c rs) (k : Keep w w') : OwnRows w' base e A n c rs :=
  h.kept (row := none) ⟨k.os, k.tape, k.output, k.size, fun i hi _ => k.block i hi⟩ (by
    cases hb : (Value.slice A n c).ownBlock with
    | none => exact Or.inl rfl
    | some g => exact Or.inr (by simp))
theorem alloc (h : OwnRows w base e A n c rs) (o : Obj) : OwnRows (w.alloc o) base e A n c rs := World.ownsRow.alloc h o
theorem drew (h : OwnRows w base e A n c rs) : OwnRows w.drew base e A n c rs := h
theorem rowLe (h : OwnRows w base e A n c rs) : ∀ k, (Value.slice A n c).ownBlock = some k → base ≤ k := fun k hk => (h.lt k hk).1
/-- Where it lies. -/
theorem block (h : OwnRows w base e A n c rs) (hn : 0 < n) : ∃ g, A = some ⟨g, 0, none⟩ ∧ base ≤ g ∧ g < w.heap.size := by
  rcases h.2 with ⟨hv, h0⟩ | ⟨g, cap, cur, hv, hg, hh, _⟩
  · omega
  · injection hv with h1 h2 h3
    exact ⟨g, h1, hg, (Array.getElem?_eq_some_iff.1 hh).1⟩
theorem rows (h : OwnRows w base e A n c rs) (hr : ∀ r ∈ rs, Bytes w w.heap.size r.A r.n r.xs ∧ r.n ≤ 140737488351232 ∧ r.n ≤ r.c) : RowsAt w w.heap.size A n rs := by
  refine ⟨h.length, hr, fun hn => ?_⟩
  obtain ⟨g, rfl, _, hlt⟩ := h.block hn
  refine ⟨g, 0, rfl, hlt, fun i r hi => ?_⟩
  have hc := World.ownsRow.cells h (g := g) rfl i r.val (by rw [List.getElem?_map, hi]; rfl)
  have ha : (⟨g, 0, none⟩ : Addr).add i = ⟨g, 0 + i, none⟩ := by unfold Addr.add; split <;> simp_all
  rwa [ha] at hc
end OwnRows
/-- Blocks of different elements are different blocks. -/
theorem blocks_apart {w : World} {base base' n n' c c' : Nat} {e e' : TypeId} {A A' : Option Addr} {xs : List Nat} {rs : List RowV} (h : Own w base e A n c xs) (h' : OwnRows w base' e' A' n' c' rs) (he : e ≠ e') :
    (Value.slice A n c).ownBlock = none ∨ (Value.slice A n c).ownBlock ≠ (Value.slice A' n' c').ownBlock := by
  rcases h.1.2 with ⟨hv, _⟩ | ⟨g, cap, cur, hv, _, hh, _⟩
  · rw [hv]; exact Or.inl rfl
  · rcases h'.2 with ⟨hv', _⟩ | ⟨g', cap', cur', hv', _, hh', _⟩
    · rw [hv, hv']; exact Or.inr (by simp [Value.ownBlock])
    · rw [hv, hv']
      refine Or.inr fun e1 => ?_
      have : g = g' := by simpa [Value.ownBlock] using e1
      subst this
      rw [hh] at hh'
      simp at hh'
      exact he hh'.2
theorem Own.grown {w w' : World} {base n c : Nat} {e : TypeId} {A : Option Addr} {xs : List Nat} {row : Option Nat} (h : Own w base e A n c xs) (hg : w.grownBy w' row) (hn : (Value.slice A n c).ownBlock = none ∨ (Value.slice A n c).ownBlock ≠ row) : Own w' base e A n c xs :=
  ⟨h.1.kept hg hn, h.2⟩
section
variable {P : Program}
/-- append(rows, row). -/
theorem run_append_row {w : World} {base n c cx t e : Nat} {A : Option Addr} {rs : List RowV} {ad : Addr} (r : RowV) (ht : P.underlying t = some (.slice e))
    (hi : (P.info? e).map (fun i => (i.zero, i.size, i.bytes)) = some (some (.slice none 0 0), 1, 24)) (hown : OwnRows w base e A n c rs) (hx : w.cell? ad = some r.val) (hlen : n ≤ 1000000) (hbase : base ≤ w.heap.size) (ty : TypeId) :
    ∃ A2 c2 w', (Builtin.append_ #[t, t] ty #[.slice A n c, .slice (some ad) 1 cx]).run P w = .ok (.slice A2 (n + 1) c2) w' ∧ OwnRows w' base e A2 (n + 1) c2 (rs ++ [r]) ∧ w.grownBy w' (Value.slice A n c).ownBlock ∧ ((Value.slice A2 (n + 1) c2).ownBlock = (Value.slice A n c).ownBlock ∨ (Value.slice A2 (n + 1) c2).ownBlock = some w.heap.size) := by
  obtain ⟨i0, hi0, hz0, hz1, hz2⟩ := info_parts hi
  obtain ⟨v', w', hrun, h2, h3, _, h5⟩ := run_append_own_at (P := P) w base t ty e i0 (.slice none 0 0) 1 24 ht hi0 hz0 hz1 hz2 rfl (by decide) _ n (rs.map RowV.val) hown ad 1 cx [r.val] rfl
    (fun j u hu => by
      match j, hu with
      | 0, hu =>
        simp at hu
        subst hu
        have ha : ad.add 0 = ad := by unfold Addr.add; split <;> simp_all
        rw [ha]; exact hx)
    (fun u hu => by simp at hu; subst hu; rfl) (by unfold maxLen; omega) (by omega) hbase
  obtain ⟨A2, c2, rfl⟩ := own_shape h2
  exact ⟨A2, c2, w', hrun, by simpa [OwnRows] using h2, h3, h5⟩
theorem wp_append_row {w : World} {o : Oper} {a : Act} {K : Act → World → Prop} {Q : Exit → Act → World → Prop} (s x : Operand) (t : TypeId)
    (ho : o.op = .call { callee := .builtin .append, args := #[s, x], argTypes := #[t, t] }) {base n c cx e : Nat} {A : Option Addr} {rs : List RowV} {ad : Addr} (r : RowV) (ht : P.underlying t = some (.slice e))
    (hi : (P.info? e).map (fun i => (i.zero, i.size, i.bytes)) = some (some (.slice none 0 0), 1, 24)) (hs : a.eval s = .slice A n c) (hown : OwnRows w base e A n c rs) (hx0 : a.eval x = .slice (some ad) 1 cx) (hx : w.cell? ad = some r.val) (hlen : n ≤ 1000000) (hbase : base ≤ w.heap.size)
    (h : ∀ A2 c2 w', OwnRows w' base e A2 (n + 1) c2 (rs ++ [r]) → w.grownBy w' (Value.slice A n c).ownBlock → ((Value.slice A2 (n + 1) c2).ownBlock = (Value.slice A n c).ownBlock ∨ (Value.slice A2 (n + 1) c2).ownBlock = some w.heap.size) → K (a.put o.dst (.slice A2 (n + 1) c2)) w') : o.wp P a w K Q := by
  obtain ⟨A2, c2, w', hr, h2, h3, h4⟩ := run_append_row (P := P) (cx := cx) r ht hi hown hx hlen hbase o.type
  unfold Oper.wp execOp
  simp only [ho, resolve, invoke, builtin, Sem.run_bind, Sem.run_pure, Result.andThen_ok, List.map_toArray, List.map_cons, List.map_nil, hs, hx0, hr]
  exact h A2 c2 w' h2 h3 h4
theorem wpList_append_row {w : World} {ops : Array Oper} {rest : List Oper} {o : Oper} {a : Act} {Q : Exit → Act → World → Prop} (hgd : o.guard = none) (s x : Operand) (t : TypeId)
    (ho : o.op = .call { callee := .builtin .append, args := #[s, x], argTypes := #[t, t] }) {base n c cx e : Nat} {A : Option Addr} {rs : List RowV} {ad : Addr} (r : RowV) (ht : P.underlying t = some (.slice e))
    (hi : (P.info? e).map (fun i => (i.zero, i.size, i.bytes)) = some (some (.slice none 0 0), 1, 24)) (hs : a.eval s = .slice A n c) (hown : OwnRows w base e A n c rs) (hx0 : a.eval x = .slice (some ad) 1 cx) (hx : w.cell? ad = some r.val) (hlen : n ≤ 1000000) (hbase : base ≤ w.heap.size)
    (h : ∀ A2 c2 w', OwnRows w' base e A2 (n + 1) c2 (rs ++ [r]) → w.grownBy w' (Value.slice A n c).ownBlock → ((Value.slice A2 (n + 1) c2).ownBlock = (Value.slice A n c).ownBlock ∨ (Value.slice A2 (n + 1) c2).ownBlock = some w.heap.size) → wpList P ops Q rest (a.put o.dst (.slice A2 (n + 1) c2)) w') : wpList P ops Q (o :: rest) a w :=
  wpList_plain hgd fun _ hK => wp_append_row s x t ho r ht hi hs hown hx0 hx hlen hbase fun A2 c2 w' h2 h3 h4 => hK _ _ (h A2 c2 w' h2 h3 h4)
end
end Go.Proofs.YtgelalbmhllccaaGreat
/- Objects with footprints: what turns within a set of blocks; rows that lie in a set of blocks. -/
namespace Go.Proofs.YtgelalbmhllccaaGreat
open Go.RowKit
/-- Nothing outside of F has turned; new blocks may lie behind. -/
structure Turned (F : Nat → Prop) (w w' : World) : Prop where
  os : w'.os = w.os
  tape : w'.tape = w.tape
  output : w'.output = w.output
  size : w.heap.size ≤ w'.heap.size
  block : ∀ k, k < w.heap.size → ¬ F k → w'.heap[k]? = w.heap[k]?
namespace Turned
variable {F F' : Nat → Prop} {W w w' a b c : World}
theorem refl (F : Nat → Prop) (w : World) : Turned F w w := ⟨rfl, rfl, rfl, Nat.le_refl _, fun _ _ _ => rfl⟩
theorem of_keep (k : Keep w w') : Turned F w w' := ⟨k.os, k.tape, k.output, k.size, fun i hi _ => k.block i hi⟩
theorem of_grown {row : Option Nat} (k : w.grownBy w' row) (h : ∀ i, row = some i → F i) : Turned F w w' :=
  ⟨k.os, k.tape, k.output, k.size, fun i hi hn => k.block i hi fun e => hn (h i e.symm)⟩
theorem trans (h : Turned F a b) (k : Turned F' b c) (hF : ∀ i, F' i → F i ∨ a.heap.size ≤ i) : Turned F a c :=
  ⟨k.os.trans h.os, k.tape.trans h.tape, k.output.trans h.output, Nat.le_trans h.size k.size, fun i hi hn => (k.block i (Nat.lt_of_lt_of_le hi h.size) fun e => by
    rcases hF i e with e | e
    · exact hn e
    · omega).trans (h.block i hi hn)⟩
theorem mono (h : Turned F w w') (hF : ∀ i, i < w.heap.size → F i → F' i) : Turned F' w w' := ⟨h.os, h.tape, h.output, h.size, fun i hi hn => h.block i hi fun e => hn (hF i hi e)⟩
theorem keep (k : Turned F w w') (h : Keep W w) (hF : ∀ i, F i → W.heap.size ≤ i) : Keep W w' :=
  Below.trans h ⟨k.os, k.tape, k.output, k.size, fun i hi => k.block i (Nat.lt_of_lt_of_le hi h.size) fun e => by have := hF i e; omega⟩
theorem cell (k : Turned F w w') {p : Addr} {v : Value} (h : w.cell? p = some v) (hn : ¬ F p.block) : w'.cell? p = some v :=
  (World.cell?_of_block (k.block p.block (World.block_lt_of_cell? w p h) hn)).trans h
theorem then_keep (k : Turned F w w') (h : Keep w' W) : Turned F w W := k.trans (of_keep (F := fun _ => False) h) (fun _ e => e.elim)
theorem set (w : World) (p : Addr) (v : Value) (h : F p.block) : Turned F w (w.setCell p v) :=
  ⟨rfl, rfl, rfl, by simp [World.setCell], fun i _ hi => Below.heap_setCell w p v i (fun e => hi (by rw [e]; exact h))⟩
/-- Of a block's row. -/
theorem owns {base n size : Nat} {e : TypeId} {v : Value} {xs : List Value} (h : w.ownsRow base e size v n xs) (k : Turned F w w') (hn : ∀ b, v.ownBlock = some b → ¬ F b) : w'.ownsRow base e size v n xs := by
  refine ⟨h.1, ?_⟩
  rcases h.2 with hv | ⟨g, cap, cur, hv, hb, hg, rest⟩
  · exact Or.inl hv
  · exact Or.inr ⟨g, cap, cur, hv, hb, (k.block g (Array.getElem?_eq_some_iff.1 hg).1 (hn g (by rw [hv]; rfl))).trans hg, rest⟩
end Turned
theorem Own.turned {F : Nat → Prop} {w w' : World} {base n c : Nat} {e : TypeId} {A : Option Addr} {xs : List Nat} (h : Own w base e A n c xs) (k : Turned F w w') (hn : ∀ b, (Value.slice A n c).ownBlock = some b → ¬ F b) : Own w' base e A n c xs :=
  ⟨k.owns h.1 hn, h.2⟩
theorem OwnRows.turned {F : Nat → Prop} {w w' : World} {base n c : Nat} {e : TypeId} {A : Option Addr} {rs : List RowV} (h : OwnRows w base e A n c rs) (k : Turned F w w') (hn : ∀ b, (Value.slice A n c).ownBlock = some b → ¬ F b) : OwnRows w' base e A n c rs :=
  k.owns h hn
/-- A row of bytes in blocks of F. -/
def LiesIn (w : World) (F : Nat → Prop) (r : RowV) : Prop :=
  r.xs.length = r.n ∧ AllB r.xs ∧ r.n ≤ r.c ∧ (0 < r.n → ∃ b off, r.A = some ⟨b, off, none⟩ ∧ F b ∧ ∀ i, i < r.n → w.cell? ⟨b, off + i, none⟩ = some (.int .u8 ((r.xs.getD i 0 : Nat) : Int)))
namespace LiesIn
variable {F F' G : Nat → Prop} {w w' : World} {r : RowV}
theorem bytes {B : Nat} (h : LiesIn w F r) (hB : ∀ b, F b → b < B) : Bytes w B r.A r.n r.xs := ⟨h.1, h.2.1, fun hp => by
  obtain ⟨b, off, e, hb, hc⟩ := h.2.2.2 hp
  exact ⟨b, off, e, hB b hb, hc⟩⟩
theorem turned (h : LiesIn w F r) (k : Turned G w w') (hd : ∀ b, F b → ¬ G b) : LiesIn w' F r := ⟨h.1, h.2.1, h.2.2.1, fun hp => by
  obtain ⟨b, off, e, hb, hc⟩ := h.2.2.2 hp
  exact ⟨b, off, e, hb, fun i hi => k.cell (hc i hi) (hd b hb)⟩⟩
theorem mono (h : LiesIn w F r) (hF : ∀ b, F b → F' b) : LiesIn w F' r := ⟨h.1, h.2.1, h.2.2.1, fun hp => by
  obtain ⟨b, off, e, hb, hc⟩ := h.2.2.2 hp
  exact ⟨b, off, e, hF b hb, hc⟩⟩
theorem nothing (w : World) (F : Nat → Prop) : LiesIn w F ⟨none, 0, 0, []⟩ := ⟨rfl, fun _ h => by simp at h, Nat.le_refl _, fun h => absurd h (by simp)⟩
end LiesIn
theorem own_le' {w : World} {base n c : Nat} {e : TypeId} {A : Option Addr} {xs : List Nat} (h : Own w base e A n c xs) : n ≤ c := by
  rcases h.1.2 with ⟨hv, h0⟩ | ⟨g, cap, cur, hv, _, _, hle, _⟩
  · omega
  · injection hv with _ _ h3; omega
theorem Own.lies {w : World} {base n c : Nat} {e : TypeId} {A : Option Addr} {xs : List Nat} (h : Own w base e A n c xs) : LiesIn w (fun b => (Value.slice A n c).ownBlock = some b) ⟨A, n, c, xs⟩ :=
  ⟨h.length, h.2, own_le' h, fun hp => by
    obtain ⟨g, rfl, _, _⟩ := h.block hp
    refine ⟨g, 0, rfl, rfl, fun i hi => ?_⟩
    rw [Nat.zero_add]; exact h.cell hi⟩
/-- What a list of rows holds. -/
def rowsXs (rs : List RowV) : List (List Nat) := rs.map (·.xs)
/-- A slice of rows in blocks of F, its own block among them. -/
def RowsIn (w : World) (F : Nat → Prop) (A : Option Addr) (n : Nat) (rs : List RowV) : Prop :=
  rs.length = n ∧ (∀ r ∈ rs, LiesIn w F r) ∧ (0 < n → ∃ b off, A = some ⟨b, off, none⟩ ∧ F b ∧ ∀ i r, rs[i]? = some r → w.cell? ⟨b, off + i, none⟩ = some r.val)
namespace RowsIn
variable {F F' G : Nat → Prop} {w w' : World} {A : Option Addr} {n : Nat} {rs : List RowV}
theorem turned (h : RowsIn w F A n rs) (k : Turned G w w') (hd : ∀ b, F b → ¬ G b) : RowsIn w' F A n rs := ⟨h.1, fun r hr => (h.2.1 r hr).turned k hd, fun hp => by
  obtain ⟨b, off, e, hb, hc⟩ := h.2.2 hp
  exact ⟨b, off, e, hb, fun i r hi => k.cell (hc i r hi) (hd b hb)⟩⟩
theorem mono (h : RowsIn w F A n rs) (hF : ∀ b, F b → F' b) : RowsIn w F' A n rs := ⟨h.1, fun r hr => (h.2.1 r hr).mono hF, fun hp => by
  obtain ⟨b, off, e, hb, hc⟩ := h.2.2 hp
  exact ⟨b, off, e, hF b hb, hc⟩⟩
theorem nothing (w : World) (F : Nat → Prop) (A : Option Addr) : RowsIn w F A 0 [] := ⟨rfl, fun _ h => by simp at h, fun h => absurd h (by omega)⟩
theorem of_own {base c : Nat} {e : TypeId} (h : OwnRows w base e A n c rs) (hr : ∀ r ∈ rs, LiesIn w F r) (hF : ∀ b, (Value.slice A n c).ownBlock = some b → F b) : RowsIn w F A n rs := by
  refine ⟨h.length, hr, fun hn => ?_⟩
  obtain ⟨g, rfl, _, hlt⟩ := h.block hn
  refine ⟨g, 0, rfl, hF g rfl, fun i r hi => ?_⟩
  have hc := World.ownsRow.cells h (g := g) rfl i r.val (by rw [List.getElem?_map, hi]; rfl)
  have ha : (⟨g, 0, none⟩ : Addr).add i = ⟨g, 0 + i, none⟩ := by unfold Addr.add; split <;> simp_all
  rwa [ha] at hc
theorem at_ (h : RowsIn w F A n rs) {k : Nat} (hk : k < n) : ∃ b off r, A = some ⟨b, off, none⟩ ∧ F b ∧ rs[k]? = some r ∧ w.cell? ⟨b, off + k, none⟩ = some (.slice r.A r.n r.c) ∧ LiesIn w F r := by
  obtain ⟨b, off, e, hb, hc⟩ := h.2.2 (by omega)
  have hl : k < rs.length := by rw [h.1]; exact hk
  exact ⟨b, off, rs[k], e, hb, List.getElem?_eq_getElem hl, hc k _ (List.getElem?_eq_getElem hl), h.2.1 _ (List.getElem_mem hl)⟩
end RowsIn
/-- The address of a slice cut at its head. -/
def dropA (A : Option Addr) (c s : Nat) : Option Addr := if c = s then A else A.map (·.add s)
theorem dropA_some (b off c s : Nat) (h : s < c) : dropA (some ⟨b, off, none⟩) c s = some ⟨b, off + s, none⟩ := by
  rw [dropA, if_neg (by omega)]
  simp only [Option.map_some, Addr.add]
  split <;> simp_all
theorem run_drop {P : Program} {t : TypeId} {z : Value} {m : Nat} (ht : P.underlying t = some (.slice (P.elem t))) (hi : (P.info? (P.elem t)).map (fun i => (i.zero, i.size, i.bytes)) = some (some z, 1, m)) (n c s : Nat) (A : Option Addr) (hs : s ≤ n) (w : World) :
    (Instr.slice t (.slice A n c) (some (.int .i64 (s : Int))) none none).run P w = .ok (.slice (dropA A c s) (n - s) (c - s)) w := by
  obtain ⟨i0, hi0, hz0, hz1, hz2⟩ := info_parts hi
  rw [run_slice_l (P := P) (w := w) t A n c ht .i64 s (by omega) (by omega)]
  simp [sizeOf, typeInfo, hi0, hz1, sliced, dropA]
theorem RowsIn.drop {F : Nat → Prop} {w : World} {A : Option Addr} {n c s : Nat} {rs : List RowV} (h : RowsIn w F A n rs) (hc : n ≤ c) : RowsIn w F (dropA A c s) (n - s) (rs.drop s) := by
  refine ⟨by rw [List.length_drop, h.1], fun r hr => h.2.1 r (List.mem_of_mem_drop hr), fun hp => ?_⟩
  obtain ⟨b, off, rfl, hb, hcell⟩ := h.2.2 (by omega)
  refine ⟨b, off + s, dropA_some b off c s (by omega), hb, fun i r hi => ?_⟩
  rw [List.getElem?_drop] at hi
  rw [Nat.add_assoc]; exact hcell (s + i) r hi
end Go.Proofs.YtgelalbmhllccaaGreat
/- Rows appended: many rows behind rows of one's own. -/
namespace Go.Proofs.YtgelalbmhllccaaGreat
open Go.RowKit
section
variable {P : Program}
end
end Go.Proofs.YtgelalbmhllccaaGreat
/- What a call hands back that lays bytes in new memory. -/
namespace Go.Proofs.YtgelalbmhllccaaGreat
open Go.RowKit
theorem info5 : (Tryz.prog.info? 5).map (fun i => (i.zero, i.size, i.bytes)) = some (some (.int .u8 0), 1, 1) := by kernel_rfl
/-- What a call hands back that lays a slice of bytes in new memory. -/
def NewBytes (w : World) (xs : List Nat) (r : Ending) (w' : World) : Prop :=
  ∃ A n c, r = .returned (.slice A n c) ∧ Own w' w.heap.size 5 A n c xs ∧ Keep w w'
/-- .. and an error. -/
def NewPair (w : World) (xs : List Nat) (er : Int) (r : Ending) (w' : World) : Prop :=
  ∃ A n c, r = .returned (.tuple #[.slice A n c, .int .i64 er]) ∧ Own w' w.heap.size 5 A n c xs ∧ Keep w w'
theorem NewPair.nil (w : World) (er : Int) : NewPair w [] er (.returned (.tuple #[.slice none 0 0, .int .i64 er])) w := ⟨none, 0, 0, rfl, Own.none_ _ _ _, Keep.refl _⟩
theorem quiet_of_eq {P : Program} {f : FuncId} {args : Array Value} {w : World} {n : Nat} {v : Value}
    (h : Calls P f args (w.drewN n) fun e w' => e = .returned v ∧ w.drewN n = w') : Calls P f args (w.drewN n) fun e w'' => e = .returned v ∧ ∃ m, w'' = w.drewN m :=
  h.mono fun _ _ h => ⟨h.1, n, h.2.symm⟩
end Go.Proofs.YtgelalbmhllccaaGreat
/- Slices of rows (coefficients and payload): read, and laid in new memory. -/
namespace Go.Proofs.YtgelalbmhllccaaGreat
open Go.RowKit
/-- A row: coefficients, payload. -/
structure PairV where
  a : RowV
  b : RowV
def PairV.vals (p : PairV) : List Value := [p.a.val, p.b.val]
/-- Both, side by side. -/
def PairV.xs (p : PairV) : List Nat := p.a.xs ++ p.b.xs
/-- Such a row as a value. -/
def PairV.agg (p : PairV) : Value := .agg #[.slice p.a.A p.a.n p.a.c, .slice p.b.A p.b.n p.b.c]
/-- A slice of rows in blocks of F, its own block among them. -/
def StIn (w : World) (F : Nat → Prop) (A : Option Addr) (n : Nat) (ps : List PairV) : Prop :=
  ps.length = n ∧ (∀ p ∈ ps, LiesIn w F p.a ∧ LiesIn w F p.b) ∧ (0 < n → ∃ b off, A = some ⟨b, off, none⟩ ∧ F b ∧ ∀ i p, ps[i]? = some p → w.cell? ⟨b, off + i * 2, none⟩ = some p.a.val ∧ w.cell? ⟨b, off + i * 2 + 1, none⟩ = some p.b.val)
namespace StIn
variable {F F' G : Nat → Prop} {w w' : World} {A : Option Addr} {n : Nat} {ps : List PairV}
theorem turned (h : StIn w F A n ps) (k : Turned G w w') (hd : ∀ b, F b → ¬ G b) : StIn w' F A n ps := ⟨h.1, fun p hp => ⟨(h.2.1 p hp).1.turned k hd, (h.2.1 p hp).2.turned k hd⟩, fun hp => by
  obtain ⟨b, off, e, hb, hc⟩ := h.2.2 hp
  exact ⟨b, off, e, hb, fun i p hi => ⟨k.cell (hc i p hi).1 (hd b hb), k.cell (hc i p hi).2 (hd b hb)⟩⟩⟩
theorem keep (h : StIn w F A n ps) (k : Keep w w') : StIn w' F A n ps := h.turned (Turned.of_keep (F := fun _ => False) k) fun _ _ e => e
theorem mono (h : StIn w F A n ps) (hF : ∀ b, F b → F' b) : StIn w F' A n ps := ⟨h.1, fun p hp => ⟨(h.2.1 p hp).1.mono hF, (h.2.1 p hp).2.mono hF⟩, fun hp => by
  obtain ⟨b, off, e, hb, hc⟩ := h.2.2 hp
  exact ⟨b, off, e, hF b hb, hc⟩⟩
theorem nothing (w : World) (F : Nat → Prop) (A : Option Addr) : StIn w F A 0 [] := ⟨rfl, fun _ h => by simp at h, fun h => absurd h (by omega)⟩
theorem at_ (h : StIn w F A n ps) {k : Nat} (hk : k < n) : ∃ b off p, A = some ⟨b, off, none⟩ ∧ F b ∧ ps[k]? = some p ∧ w.cell? ⟨b, off + k * 2, none⟩ = some (.slice p.a.A p.a.n p.a.c) ∧ w.cell? ⟨b, off + k * 2 + 1, none⟩ = some (.slice p.b.A p.b.n p.b.c) ∧ LiesIn w F p.a ∧ LiesIn w F p.b := by
  obtain ⟨b, off, e, hb, hc⟩ := h.2.2 (by omega)
  have hl : k < ps.length := by rw [h.1]; exact hk
  have hp := List.getElem?_eq_getElem hl
  have hm := h.2.1 _ (List.getElem_mem hl)
  exact ⟨b, off, ps[k], e, hb, hp, (hc k _ hp).1, (hc k _ hp).2, hm.1, hm.2⟩
end StIn
/-- New memory: rows in a block from base on. -/
def OwnSt (w : World) (base : Nat) (A : Option Addr) (n c : Nat) (ps : List PairV) : Prop :=
  w.ownsRow base 45 2 (.slice A n c) n (ps.flatMap PairV.vals)
theorem vals_len (ps : List PairV) : (ps.flatMap PairV.vals).length = ps.length * 2 := by
  induction ps with
  | nil => rfl
  | cons p ps ih => rw [List.flatMap_cons, List.length_append, ih, List.length_cons]; simp [PairV.vals]; omega
theorem vals_at : ∀ (ps : List PairV) (i : Nat) (p : PairV), ps[i]? = some p → (ps.flatMap PairV.vals)[i * 2]? = some p.a.val ∧ (ps.flatMap PairV.vals)[i * 2 + 1]? = some p.b.val
  | [], i, p, h => by simp at h
  | q :: ps, 0, p, h => by
    simp at h
    subst h
    exact ⟨rfl, rfl⟩
  | q :: ps, i + 1, p, h => by
    have ih := vals_at ps i p (by simpa using h)
    have e : ((q :: ps).flatMap PairV.vals) = q.a.val :: q.b.val :: ps.flatMap PairV.vals := rfl
    rw [e, show (i + 1) * 2 = i * 2 + 1 + 1 by omega]
    simpa using ih
namespace OwnSt
variable {w w' : World} {base n c : Nat} {A : Option Addr} {ps : List PairV}
theorem length (h : OwnSt w base A n c ps) : ps.length = n := by have := h.1; rw [vals_len] at this; omega
theorem none_ (w : World) (base : Nat) : OwnSt w base none 0 0 [] := World.ownsRow_nil w base _ 2
theorem keep (h : OwnSt w base A n c ps) (k : Keep w w') : OwnSt w' base A n c ps :=
  h.kept (row := none) ⟨k.os, k.tape, k.output, k.size, fun i hi _ => k.block i hi⟩ (by
    cases hb : (Value.slice A n c).ownBlock with
    | none => exact Or.inl rfl
    | some g => exact Or.inr (by simp))
theorem turned {F : Nat → Prop} (h : OwnSt w base A n c ps) (k : Turned F w w') (hn : ∀ b, (Value.slice A n c).ownBlock = some b → ¬ F b) : OwnSt w' base A n c ps := k.owns h hn
theorem lower {base' : Nat} (h : OwnSt w base A n c ps) (hb : base' ≤ base) : OwnSt w base' A n c ps := by
  refine ⟨h.1, ?_⟩
  rcases h.2 with h1 | ⟨g, cap, cur, hv, hg, r⟩
  · exact Or.inl h1
  · exact Or.inr ⟨g, cap, cur, hv, Nat.le_trans hb hg, r⟩
theorem block (h : OwnSt w base A n c ps) (hn : 0 < n) : ∃ g, A = some ⟨g, 0, none⟩ ∧ base ≤ g ∧ g < w.heap.size := by
  rcases h.2 with ⟨hv, h0⟩ | ⟨g, cap, cur, hv, hg, hh, _⟩
  · omega
  · injection hv with h1 h2 h3
    exact ⟨g, h1, hg, (Array.getElem?_eq_some_iff.1 hh).1⟩
theorem le (h : OwnSt w base A n c ps) : n ≤ c := by
  rcases h.2 with ⟨hv, h0⟩ | ⟨g, cap, cur, hv, _, _, hle, _⟩
  · omega
  · injection hv with _ _ h3; omega
theorem stIn {F : Nat → Prop} (h : OwnSt w base A n c ps) (hp : ∀ p ∈ ps, LiesIn w F p.a ∧ LiesIn w F p.b) (hF : ∀ b, (Value.slice A n c).ownBlock = some b → F b) : StIn w F A n ps := by
  refine ⟨h.length, hp, fun hn => ?_⟩
  obtain ⟨g, rfl, _, hlt⟩ := h.block hn
  refine ⟨g, 0, rfl, hF g rfl, fun i p hi => ?_⟩
  obtain ⟨v1, v2⟩ := vals_at ps i p hi
  have c1 := World.ownsRow.cells h (g := g) rfl _ _ v1
  have c2 := World.ownsRow.cells h (g := g) rfl _ _ v2
  have ha : ∀ j, (⟨g, 0, none⟩ : Addr).add j = ⟨g, 0 + j, none⟩ := fun j => by unfold Addr.add; split <;> simp_all
  rw [ha] at c1 c2
  exact ⟨c1, c2⟩
end OwnSt
theorem infoSt : (Tryz.prog.info? 45).map (fun i => (i.zero, i.size, i.bytes)) = some (some (.agg #[.slice none 0 0, .slice none 0 0]), 2, 48) := by kernel_rfl
theorem run_append_st {w : World} {base n c cx t : Nat} {A : Option Addr} {ps : List PairV} {ad : Addr} (p : PairV) (ht : Tryz.prog.underlying t = some (.slice 45)) (hown : OwnSt w base A n c ps) (h0 : w.cell? (ad.add 0) = some p.a.val) (h1 : w.cell? (ad.add 1) = some p.b.val) (hlen : n ≤ 1000000) (hbase : base ≤ w.heap.size) (ty : TypeId) :
    ∃ A2 c2 w', (Builtin.append_ #[t, t] ty #[.slice A n c, .slice (some ad) 1 cx]).run Tryz.prog w = .ok (.slice A2 (n + 1) c2) w' ∧ OwnSt w' base A2 (n + 1) c2 (ps ++ [p]) ∧ w.grownBy w' (Value.slice A n c).ownBlock ∧ ((Value.slice A2 (n + 1) c2).ownBlock = (Value.slice A n c).ownBlock ∨ (Value.slice A2 (n + 1) c2).ownBlock = some w.heap.size) := by
  obtain ⟨i0, hi0, hz0, hz1, hz2⟩ := info_parts infoSt
  obtain ⟨v', w', hrun, h2, h3, _, h5⟩ := run_append_own_at (P := Tryz.prog) w base t ty _ i0 (.agg #[.slice none 0 0, .slice none 0 0]) 2 48 ht hi0 hz0 hz1 hz2 rfl (by decide) _ n _ hown ad 1 cx p.vals rfl
    (fun j u hj => by
      match j, hj with
      | 0, hj => simp [PairV.vals] at hj; subst hj; exact h0
      | 1, hj => simp [PairV.vals] at hj; subst hj; exact h1
      | j + 2, hj => simp [PairV.vals] at hj)
    (fun u hu => by
      simp [PairV.vals] at hu
      rcases hu with rfl | rfl <;> rfl) (by unfold maxLen; omega) (by omega) hbase
  have e : ps.flatMap PairV.vals ++ p.vals = (ps ++ [p]).flatMap PairV.vals := by rw [List.flatMap_append]; simp
  rw [e] at h2
  obtain ⟨A2, c2, rfl⟩ := own_shape h2
  exact ⟨A2, c2, w', hrun, h2, h3, h5⟩
/-- append(rows, row), the row in a block of one. -/
theorem wpList_append_st {ops : Array Oper} {rest : List Oper} {o : Oper} {a : Act} {Q : Exit → Act → World → Prop} {w : World} (hgd : o.guard = none) (s x : Operand) (t : TypeId)
    (ho : o.op = .call { callee := .builtin .append, args := #[s, x], argTypes := #[t, t] }) {base n c cx : Nat} {A : Option Addr} {ps : List PairV} {gx : Nat} (p : PairV) (ht : Tryz.prog.underlying t = some (.slice 45))
    (hs : a.eval s = .slice A n c) (hown : OwnSt w base A n c ps) (hx0 : a.eval x = .slice (some ⟨gx, 0, none⟩) 1 cx) (h0 : w.cell? ⟨gx, 0, none⟩ = some p.a.val) (h1 : w.cell? ⟨gx, 1, none⟩ = some p.b.val) (hlen : n ≤ 1000000) (hbase : base ≤ w.heap.size)
    (h : ∀ A2 c2 w', OwnSt w' base A2 (n + 1) c2 (ps ++ [p]) → w.grownBy w' (Value.slice A n c).ownBlock → ((Value.slice A2 (n + 1) c2).ownBlock = (Value.slice A n c).ownBlock ∨ (Value.slice A2 (n + 1) c2).ownBlock = some w.heap.size) → wpList Tryz.prog ops Q rest (a.put o.dst (.slice A2 (n + 1) c2)) w') : wpList Tryz.prog ops Q (o :: rest) a w := by
  refine wpList_plain hgd fun _ hK => ?_
  have ha : ∀ j, (⟨gx, 0, none⟩ : Addr).add j = ⟨gx, j, none⟩ := fun j => by unfold Addr.add; split <;> simp_all
  obtain ⟨A2, c2, w', hr, h2, h3, h4⟩ := run_append_st (cx := cx) (ad := ⟨gx, 0, none⟩) p ht hown (by rw [ha]; exact h0) (by rw [ha]; exact h1) hlen hbase o.type
  unfold Oper.wp execOp
  simp only [ho, resolve, invoke, builtin, Sem.run_bind, Sem.run_pure, Result.andThen_ok, List.map_toArray, List.map_cons, List.map_nil, hs, hx0, hr]
  exact hK _ _ (h A2 c2 w' h2 h3 h4)
end Go.Proofs.YtgelalbmhllccaaGreat
/- Bytes in new memory (the document's own); bytes.Equal. -/
namespace Go.Proofs.YtgelalbmhllccaaGreat
open Go.RowKit
end Go.Proofs.YtgelalbmhllccaaGreat
/- The field of 256 elements over plain numbers: sums, products, powers, exponents, and that it is a field. -/
namespace Go.Proofs.YtgelalbmhllccaaGreat

/-- The product with x. -/
def xt (a : Nat) : Nat := (a * 2 % 256) ^^^ (27 * (a / 128))
/-- x to the k times a. -/
def xtn : Nat → Nat → Nat
  | 0, a => a
  | k + 1, a => xt (xtn k a)
/-- The first k steps of a product. -/
def mulTo (a b : Nat) : Nat → Nat
  | 0 => 0
  | k + 1 => mulTo a b k ^^^ (xtn k a * (b / 2 ^ k % 2))
def mulN (a b : Nat) : Nat := mulTo a b 8

theorem xor_lt {a b : Nat} (ha : a < 256) (hb : b < 256) : a ^^^ b < 256 := Nat.xor_lt_two_pow (n := 8) ha hb
theorem xt_lt {a : Nat} (ha : a < 256) : xt a < 256 := xor_lt (Nat.mod_lt _ (by decide)) (by omega)
theorem xtn_lt (k : Nat) {a : Nat} (ha : a < 256) : xtn k a < 256 := by
  induction k with
  | zero => exact ha
  | succ k ih => exact xt_lt ih
theorem bit_lt (b k : Nat) : b / 2 ^ k % 2 ≤ 1 := by omega
theorem mulTo_lt (a b k : Nat) (ha : a < 256) : mulTo a b k < 256 := by
  induction k with
  | zero => exact (by decide : (0 : Nat) < 256)
  | succ k ih =>
    refine xor_lt ih ?_
    have h := bit_lt b k
    have h2 := xtn_lt k ha
    rcases Nat.le_one_iff_eq_zero_or_eq_one.1 h with e | e <;> rw [e] <;> simp <;> omega
theorem mulN_lt {a : Nat} (b : Nat) (ha : a < 256) : mulN a b < 256 := mulTo_lt a b 8 ha

theorem stepbit_lt (x b k : Nat) (hx : x < 256) : x * (b / 2 ^ k % 2) < 256 := by
  rcases Nat.le_one_iff_eq_zero_or_eq_one.1 (bit_lt b k) with e | e <;> rw [e] <;> simp <;> omega
theorem bit_int (b k : Nat) (hb : b < 256) : bits .and .u8 ((b : Int) / 2 ^ k) 1 = ((b / 2 ^ k % 2 : Nat) : Int) := by
  have e : ((b : Int) / 2 ^ k) = ((b / 2 ^ k : Nat) : Int) := by simp
  have h : b / 2 ^ k < 256 := Nat.lt_of_le_of_lt (Nat.div_le_self _ _) hb
  rw [e, show (1 : Int) = ((1 : Nat) : Int) from rfl, u8_and_nat _ 1 h (by decide), Nat.and_one_is_mod]
theorem stepbit_int (x b k : Nat) (hx : x < 256) (hb : b < 256) : (x : Int) * bits .and .u8 ((b : Int) / 2 ^ k) 1 % 256 = ((x * (b / 2 ^ k % 2) : Nat) : Int) := by
  have h := stepbit_lt x b k hx
  rw [bit_int b k hb, ← Int.natCast_mul]
  omega

/-! ### Powers of 3 -/
def pw : Nat → Nat
  | 0 => 1
  | k + 1 => pw k ^^^ xt (pw k)
/-- The tables as one number each. -/
def bigP : Nat := 0xf652c7b46c241cfda297847cdd4b39170df2a794858a8f8c8d7b29ee5a36120ef351c6423ee3a891868b79de4acf45ca46cbb099772d1b0907f4a563211ffc54c543c8b16f25eaaf6523e858c1b69b80898e7adfbc9d827e2aefac64d5ba9f75dabf9c742ced5bc040c9473de25ec3413f15fa5632e75dc2b76dd24e3a16fba06020e9ae93712fecad92877d2b19fea361d6bb69271d0bf0503010f957c4b59a76db49ceb398817fdcbd6bd0b99e838878281808f1a662d74d3be0a967d44ccdb26ed3b868d14fcc443c140c04f55331e6ab9070d9be6a26eb5937e45c34e5aa66221e0a0602f7a49573d84838e15f3513f8a196722e1aff5533110f050301
def bigL : Nat := 0x770f7c0808c630d18fe31c5deed4a67a5e3997726b87cb4892e2023d9921144abd3f2565d9e2a14476da2413c843953d15b3f37cdcf95bcfcdcbe619087b2979d2955aa6ca1523b86b160fb5a3ebbccb77b76a42d1f43d8ec49c4176ff60c7fa051a99cb05fcb59f50b16eb7a75d72ce8ade6e7d5e9ae4f74d6eaf450a858af57a773f3e5acd44eca5e9f9b150a792bba3d85fa54286b3a421eb6a3c3486e7e1091882298e225b3628b06bf30fddd6638834640f1d25c1394ced036bddb8f968eda93354582f01224e10f21058a2f657809c99a72a6e44d6a27b9f9b51dc27dc11c69f8c808714cef818d340ee0046403dfee33681bc74bc61a023201190000
def pwT (i : Nat) : Nat := bigP >>> (8 * i) % 256
def lg (a : Nat) : Nat := bigL >>> (8 * a) % 256
def pwOk : Nat → Bool
  | 0 => pwT 0 == 1
  | k + 1 => pwOk k && pwT (k + 1) == (pwT k ^^^ xt (pwT k))
theorem pwOk_254 : pwOk 254 = true := by decide +kernel
theorem pw_of_ok (k : Nat) (h : pwOk k = true) : pw k = pwT k ∧ ∀ j, j ≤ k → pwOk j = true := by
  induction k with
  | zero => exact ⟨by simpa [pwOk, pw] using (beq_iff_eq.1 h).symm, fun j hj => by rw [show j = 0 by omega]; exact h⟩
  | succ k ih =>
    simp only [pwOk, Bool.and_eq_true, beq_iff_eq] at h
    obtain ⟨h1, h2⟩ := ih h.1
    refine ⟨by rw [pw, h1, h.2], fun j hj => ?_⟩
    by_cases e : j = k + 1
    · subst e; simp [pwOk, h.1, h.2]
    · exact h2 j (by omega)
theorem pw_T (k : Nat) (h : k < 255) : pw k = pwT k := (pw_of_ok k ((pw_of_ok 254 pwOk_254).2 k (by omega))).1
theorem pwT_lg : ∀ a, a < 256 → 1 ≤ a → lg a < 255 ∧ pwT (lg a) = a := by decide +kernel
theorem lg_pwT : ∀ i, i < 255 → lg (pwT i) = i ∧ 1 ≤ pwT i ∧ pwT i < 256 := by decide +kernel
theorem pw_lg (a : Nat) (h : a < 256) (h1 : 1 ≤ a) : pw (lg a) = a := by
  have := pwT_lg a h h1; rw [pw_T _ this.1]; exact this.2
theorem lg_lt (a : Nat) (h : a < 256) (h1 : 1 ≤ a) : lg a < 255 := (pwT_lg a h h1).1
theorem lg_pw (i : Nat) (h : i < 255) : lg (pw i) = i := by rw [pw_T i h]; exact (lg_pwT i h).1
theorem pw_pos (i : Nat) (h : i < 255) : 1 ≤ pw i := by rw [pw_T i h]; exact (lg_pwT i h).2.1
theorem pw_lt (i : Nat) : pw i < 256 := by
  induction i with
  | zero => exact (by decide : 1 < 256)
  | succ k ih => exact xor_lt ih (xt_lt ih)
theorem pw_255 : pw 255 = 1 := by rw [pw, pw_T 254 (by decide)]; decide +kernel
theorem pw_add255 (k : Nat) : pw (k + 255) = pw k := by
  induction k with
  | zero => rw [Nat.zero_add, pw_255]; rfl
  | succ k ih => rw [show k + 1 + 255 = (k + 255) + 1 by omega, pw, ih, pw]
theorem pw_mod (k : Nat) : pw (k % 255) = pw k := by
  induction k using Nat.strongRecOn with
  | _ k ih =>
    by_cases h : k < 255
    · rw [Nat.mod_eq_of_lt h]
    · have e : k = (k - 255) + 255 := by omega
      rw [e, Nat.add_mod_right, ih _ (by omega), pw_add255]

/-! ### Sums go through -/
theorem xt_xor_all : ∀ a, a < 256 → ∀ b, b < 256 → xt (a ^^^ b) = xt a ^^^ xt b := by decide +kernel
theorem xtn_xor (k : Nat) {a b : Nat} (ha : a < 256) (hb : b < 256) : xtn k (a ^^^ b) = xtn k a ^^^ xtn k b := by
  induction k with
  | zero => rfl
  | succ k ih => rw [xtn, ih, xt_xor_all _ (xtn_lt k ha) _ (xtn_lt k hb)]; rfl
theorem xtn_xt (k : Nat) (a : Nat) : xtn k (xt a) = xt (xtn k a) := by
  induction k with
  | zero => rfl
  | succ k ih => rw [xtn, ih]; rfl
theorem xor_swap (a b c d : Nat) : (a ^^^ b) ^^^ (c ^^^ d) = (a ^^^ c) ^^^ (b ^^^ d) := by
  rw [Nat.xor_assoc, ← Nat.xor_assoc b, Nat.xor_comm b c, Nat.xor_assoc c, ← Nat.xor_assoc a]
theorem xor_mulbit (x y b : Nat) (h : b ≤ 1) : (x ^^^ y) * b = x * b ^^^ y * b := by
  rcases Nat.le_one_iff_eq_zero_or_eq_one.1 h with e | e <;> subst e <;> simp
theorem mulTo_xor (a c b k : Nat) (ha : a < 256) (hc : c < 256) : mulTo (a ^^^ c) b k = mulTo a b k ^^^ mulTo c b k := by
  induction k with
  | zero => simp [mulTo]
  | succ k ih => rw [mulTo, ih, xtn_xor k ha hc, xor_mulbit _ _ _ (bit_lt b k), xor_swap]; rfl
theorem mulTo_xt (a b k : Nat) (ha : a < 256) : mulTo (xt a) b k = xt (mulTo a b k) := by
  induction k with
  | zero => simp only [mulTo]; decide
  | succ k ih =>
    rw [mulTo, ih, xtn_xt, mulTo, xt_xor_all _ (mulTo_lt a b k ha) _ (stepbit_lt _ b k (xtn_lt k ha))]
    congr 1
    rcases Nat.le_one_iff_eq_zero_or_eq_one.1 (bit_lt b k) with e | e <;> rw [e] <;> simp
    rfl
theorem mul_xor_left (a c b : Nat) (ha : a < 256) (hc : c < 256) : mulN (a ^^^ c) b = mulN a b ^^^ mulN c b := mulTo_xor a c b 8 ha hc
theorem mul_xt_left (a b : Nat) (ha : a < 256) : mulN (xt a) b = xt (mulN a b) := mulTo_xt a b 8 ha
theorem mul_one_left : ∀ b, b < 256 → mulN 1 b = b := by decide +kernel
theorem mul_zero_left (b : Nat) : mulN 0 b = 0 := by
  have h : ∀ k, xtn k 0 = 0 := fun k => by induction k with | zero => rfl | succ k ih => rw [xtn, ih]; rfl
  simp [mulN, mulTo, h]
theorem mul_zero_right (a : Nat) : mulN a 0 = 0 := by simp [mulN, mulTo]

/-- The product of two powers. -/
theorem mul_pw (i : Nat) (b : Nat) (hb : b < 256) (j : Nat) (hj : pw j = b) : mulN (pw i) b = pw (i + j) := by
  induction i with
  | zero => rw [show pw 0 = 1 from rfl, mul_one_left b hb, Nat.zero_add, hj]
  | succ i ih => rw [pw, mul_xor_left _ _ _ (pw_lt i) (xt_lt (pw_lt i)), mul_xt_left _ _ (pw_lt i), ih, show i + 1 + j = (i + j) + 1 by omega, pw]
theorem mul_pw_pw (i j : Nat) : mulN (pw i) (pw j) = pw (i + j) := mul_pw i (pw j) (pw_lt j) j rfl
theorem mul_lg (a b : Nat) (ha : a < 256) (hb : b < 256) (h1 : 1 ≤ a) (h2 : 1 ≤ b) : mulN a b = pw (lg a + lg b) := by
  have h := mul_pw_pw (lg a) (lg b)
  rwa [pw_lg a ha h1, pw_lg b hb h2] at h
theorem pw_pos' (k : Nat) : 1 ≤ pw k := by rw [← pw_mod]; exact pw_pos _ (Nat.mod_lt _ (by decide))
theorem pw_inj {i j : Nat} (h : pw i = pw j) : i % 255 = j % 255 := by
  rw [← pw_mod i, ← pw_mod j] at h
  have := congrArg lg h
  rwa [lg_pw _ (Nat.mod_lt _ (by decide)), lg_pw _ (Nat.mod_lt _ (by decide))] at this

/-! ### The field -/
theorem mul_comm' (a b : Nat) (ha : a < 256) (hb : b < 256) : mulN a b = mulN b a := by
  by_cases h1 : a = 0
  · subst h1; rw [mul_zero_left, mul_zero_right]
  by_cases h2 : b = 0
  · subst h2; rw [mul_zero_left, mul_zero_right]
  rw [mul_lg a b ha hb (by omega) (by omega), mul_lg b a hb ha (by omega) (by omega), Nat.add_comm]
theorem mul_eq_zero (a b : Nat) (ha : a < 256) (hb : b < 256) : mulN a b = 0 ↔ a = 0 ∨ b = 0 := by
  by_cases h1 : a = 0
  · subst h1; simp [mul_zero_left]
  by_cases h2 : b = 0
  · subst h2; simp [mul_zero_right]
  have := pw_pos' (lg a + lg b)
  rw [mul_lg a b ha hb (by omega) (by omega)]
  omega
theorem mul_assoc' (a b c : Nat) (ha : a < 256) (hb : b < 256) (hc : c < 256) : mulN (mulN a b) c = mulN a (mulN b c) := by
  by_cases h1 : a = 0
  · subst h1; simp [mul_zero_left]
  by_cases h2 : b = 0
  · subst h2; simp [mul_zero_left, mul_zero_right]
  by_cases h3 : c = 0
  · subst h3; simp [mul_zero_right]
  rw [mul_lg a b ha hb (by omega) (by omega), mul_lg b c hb hc (by omega) (by omega)]
  have ea := pw_lg a ha (by omega)
  have ec := pw_lg c hc (by omega)
  have h4 := mul_pw_pw (lg a + lg b) (lg c)
  have h5 := mul_pw_pw (lg a) (lg b + lg c)
  rw [ec] at h4
  rw [ea] at h5
  rw [h4, h5, Nat.add_assoc]
theorem mul_xor_right (a b c : Nat) (ha : a < 256) (hb : b < 256) (hc : c < 256) : mulN a (b ^^^ c) = mulN a b ^^^ mulN a c := by
  rw [mul_comm' _ _ ha (xor_lt hb hc), mul_xor_left _ _ _ hb hc, mul_comm' b a hb ha, mul_comm' c a hc ha]
theorem mul_one_right (a : Nat) (ha : a < 256) : mulN a 1 = a := by rw [mul_comm' a 1 ha (by decide), mul_one_left a ha]
/-- The inverse, as the tables give it. -/
def invN (a : Nat) : Nat := if a = 0 then 0 else pw ((255 - lg a) % 255)
theorem invN_lt (a : Nat) : invN a < 256 := by unfold invN; split; decide; exact pw_lt _
theorem mul_inv (a : Nat) (ha : a < 256) (h1 : 1 ≤ a) : mulN a (invN a) = 1 := by
  have h := mul_pw_pw (lg a) ((255 - lg a) % 255)
  rw [pw_lg a ha h1] at h
  unfold invN
  rw [if_neg (by omega), h]
  have := lg_lt a ha h1
  by_cases e : lg a = 0
  · rw [e]; rfl
  · rw [Nat.mod_eq_of_lt (by omega : 255 - lg a < 255), show lg a + (255 - lg a) = 255 by omega, pw_255]
/-! ### For the document's own answers -/
end Go.Proofs.YtgelalbmhllccaaGreat
/- The contract of the document's own product; sums and products whose answer has a name. -/
namespace Go.Proofs.YtgelalbmhllccaaGreat
open Go.RowKit

end Go.Proofs.YtgelalbmhllccaaGreat
/- Vectors over the field, as lists of numbers: sums, products, leads, units, combinations; that they are a space. -/
namespace Go.Proofs.YtgelalbmhllccaaGreat

/-- n numbers, number i what f makes of i. -/
def tab (n : Nat) (f : Nat → Nat) : List Nat := (List.range n).map f
theorem tab_length (n : Nat) (f : Nat → Nat) : (tab n f).length = n := by simp [tab]
theorem tab_succ (n : Nat) (f : Nat → Nat) : tab (n + 1) f = tab n f ++ [f n] := by simp [tab, List.range_succ]
theorem tab_getD (n : Nat) (f : Nat → Nat) (i : Nat) : (tab n f).getD i 0 = if i < n then f i else 0 := by
  rw [List.getD_eq_getElem?_getD]
  by_cases h : i < n
  · simp [tab, h]
  · rw [if_neg h, List.getElem?_eq_none (by rw [tab_length]; omega)]; rfl
theorem tab_congr {n : Nat} {f g : Nat → Nat} (h : ∀ i, i < n → f i = g i) : tab n f = tab n g := by
  induction n with
  | zero => rfl
  | succ n ih => rw [tab_succ, tab_succ, ih fun i hi => h i (by omega), h n (by omega)]
theorem tab_self (xs : List Nat) : tab xs.length (fun i => xs.getD i 0) = xs := by
  apply List.ext_getElem?
  intro i
  by_cases h : i < xs.length
  · rw [List.getElem?_eq_getElem h]
    simp [tab, h]
  · rw [List.getElem?_eq_none (by rw [tab_length]; omega), List.getElem?_eq_none (by omega)]
theorem list_ext {xs ys : List Nat} (hl : xs.length = ys.length) (h : ∀ i, i < xs.length → xs.getD i 0 = ys.getD i 0) : xs = ys := by
  rw [← tab_self xs, ← tab_self ys, ← hl]
  exact tab_congr h

/-- The sum of the first n of f. -/
def sumX (f : Nat → Nat) : Nat → Nat
  | 0 => 0
  | n + 1 => sumX f n ^^^ f n
theorem sumX_lt (f : Nat → Nat) (n : Nat) (h : ∀ i, i < n → f i < 256) : sumX f n < 256 := by
  induction n with
  | zero => exact (by decide : 0 < 256)
  | succ n ih => exact xor_lt (ih fun i hi => h i (by omega)) (h n (by omega))
theorem sumX_congr {f g : Nat → Nat} {n : Nat} (h : ∀ i, i < n → f i = g i) : sumX f n = sumX g n := by
  induction n with
  | zero => rfl
  | succ n ih => rw [sumX, sumX, ih fun i hi => h i (by omega), h n (by omega)]
/-- The calls, as the chapter tells them. -/
def vAddS (n : Nat) (xs ys : List Nat) (c : Nat) : List Nat := tab n fun i => xs.getD i 0 ^^^ mulN (ys.getD i 0) c
def vScale (n : Nat) (xs : List Nat) (c : Nat) : List Nat := tab n fun i => mulN (xs.getD i 0) c
/-- The least place from k on, of the first n. -/
def vLeadTo (xs : List Nat) : Nat → Option Nat
  | 0 => none
  | n + 1 => match vLeadTo xs n with
    | some i => some i
    | none => if xs.getD n 0 = 0 then none else some n
def vLead (n : Nat) (xs : List Nat) : Int := match vLeadTo xs n with
  | some i => (i : Int)
  | none => -1
def vUnit (n k : Nat) : List Nat := tab n fun i => if i = k then 1 else 0
/-- The first k rows, each multiplied with its number: number j. -/
def vCombAt (rows : List (List Nat)) (c : List Nat) (k j : Nat) : Nat := sumX (fun i => mulN ((rows.getD i []).getD j 0) (c.getD i 0)) k
def vComb (n : Nat) (rows : List (List Nat)) (c : List Nat) (k : Nat) : List Nat := tab n (vCombAt rows c k)

theorem vLeadTo_none (xs : List Nat) (n : Nat) : vLeadTo xs n = none ↔ ∀ i, i < n → xs.getD i 0 = 0 := by
  induction n with
  | zero => exact ⟨fun _ i hi => by omega, fun _ => rfl⟩
  | succ n ih =>
    constructor
    · intro h
      rw [vLeadTo] at h
      cases h1 : vLeadTo xs n with
      | some k => rw [h1] at h; cases h
      | none =>
        rw [h1] at h
        have h2 := ih.1 h1
        intro i hi
        by_cases e : i = n
        · subst e
          by_cases hz : xs.getD i 0 = 0
          · exact hz
          · rw [if_neg hz] at h; cases h
        · exact h2 i (by omega)
    · intro h
      have h1 := ih.2 fun i hi => h i (by omega)
      rw [vLeadTo, h1, if_pos (h n (by omega))]
theorem vLeadTo_some (xs : List Nat) (n : Nat) : ∀ k, vLeadTo xs n = some k ↔ k < n ∧ xs.getD k 0 ≠ 0 ∧ ∀ i, i < k → xs.getD i 0 = 0 := by
  induction n with
  | zero => exact fun k => ⟨fun h => by simp [vLeadTo] at h, fun h => absurd h.1 (by omega)⟩
  | succ n ih' =>
    intro k
    rw [vLeadTo]
    cases h1 : vLeadTo xs n with
    | some j =>
      have h2 := (ih' j).1 h1
      constructor
      · intro h
        injection h with h
        subst h
        exact ⟨by omega, h2.2⟩
      · intro h
        have : k = j := by
          rcases Nat.lt_trichotomy k j with h3 | h3 | h3
          · exact absurd (h2.2.2 k h3) h.2.1
          · exact h3
          · exact absurd (h.2.2 j h3) h2.2.1
        rw [this]
    | none =>
      have h2 := (vLeadTo_none xs n).1 h1
      constructor
      · intro h
        by_cases hz : xs.getD n 0 = 0
        · rw [if_pos hz] at h; cases h
        · rw [if_neg hz] at h
          injection h with h
          subst h
          exact ⟨by omega, hz, h2⟩
      · intro h
        have : k = n := by
          by_cases e : k < n
          · exact absurd (h2 k e) h.2.1
          · omega
        subst this
        rw [if_neg h.2.1]
end Go.Proofs.YtgelalbmhllccaaGreat
/- Words for combinations (plain). -/
namespace Go.Proofs.YtgelalbmhllccaaGreat
open Go.RowKit
set_option linter.unusedVariables false
set_option linter.unusedSimpArgs false
open Go.RowKit

theorem vComb_zero (n : Nat) (rows : List (List Nat)) (c : List Nat) : vComb n rows c 0 = List.replicate n 0 := by
  refine list_ext (by simp [vComb, tab_length]) fun i hi => ?_
  rw [vComb, tab_length] at hi
  rw [vComb, tab_getD, if_pos hi, List.getD_eq_getElem?_getD, List.getElem?_replicate, if_pos hi]; rfl
theorem vComb_succ (n k : Nat) (rows : List (List Nat)) (c : List Nat) : vAddS n (vComb n rows c k) (rows.getD k []) (c.getD k 0) = vComb n rows c (k + 1) :=
  tab_congr fun i hi => by rw [vComb, tab_getD, if_pos hi]; rfl

/-- The combination, or that the rows don't fit. -/
def combOf (n : Nat) (rs : List RowV) (c : List Nat) : List Nat := if ∀ r ∈ rs, r.n = n then vComb n (rowsOf rs) c rs.length else []
def combErr (n : Nat) (rs : List RowV) : Int := if ∀ r ∈ rs, r.n = n then 0 else 21
end Go.Proofs.YtgelalbmhllccaaGreat
/- Slices of slices of bytes, made and stored to. -/
namespace Go.Proofs.YtgelalbmhllccaaGreat
open Go.RowKit
theorem run_make_rows {P : Program} {t e : TypeId} (ht : P.underlying t = some (.slice e)) (hi : (P.info? e).map (fun i => (i.zero, i.size, i.bytes)) = some (some (.slice none 0 0), 1, 24)) (n : Nat) (hn : n ≤ 1000000) (w : World) :
    (Instr.makeSlice t (.int .i64 (n : Int)) (.int .i64 (n : Int))).run P w = .ok (.slice (some ⟨w.heap.size, 0, none⟩) n n) (w.alloc (.cells (madeCells #[.slice none 0 0] n) e)) := by
  obtain ⟨i0, hi0, hz0, hz1, hz2⟩ := info_parts hi
  have h := run_make (P := P) w t e i0 (.slice none 0 0) ht hi0 hz0 .i64 .i64 n n (by omega) (Int.le_refl _) (by rw [hz2]; omega) (by omega)
  simpa [hz1, Value.cells] using h
theorem OwnRows.made (w : World) (e : TypeId) (n : Nat) (hn : n ≤ 1000000) : OwnRows (w.alloc (.cells (madeCells #[.slice none 0 0] n) e)) w.heap.size e (some ⟨w.heap.size, 0, none⟩) n n (List.replicate n ⟨none, 0, 0, []⟩) := by
  have h := World.ownsRow_lit (w := w) (base := w.heap.size) (e := e) (size := 1) (madeCells #[.slice none 0 0] n) n (Nat.le_refl _) (by unfold maxLen; omega) (by rw [size_madeCells]; simp)
  rw [toList_madeCells_one] at h
  simpa [OwnRows, RowV.val] using h
theorem OwnRows.stored {w : World} {base n c g i : Nat} {e : TypeId} {rs : List RowV} (h : OwnRows w base e (some ⟨g, 0, none⟩) n c rs) (r : RowV) : OwnRows (w.setCell ⟨g, i, none⟩ (.slice r.A r.n r.c)) base e (some ⟨g, 0, none⟩) n c (rs.set i r) := by
  have := World.ownsRow.stored h i (.slice r.A r.n r.c)
  unfold OwnRows
  rw [List.map_set]; exact this.1
end Go.Proofs.YtgelalbmhllccaaGreat
/- A region that draws its order, walked by hand: what is held may grow on the way. -/
namespace Go.Proofs.YtgelalbmhllccaaGreat

section
variable {P : Program} {ops : Array Oper} {Q : Exit → Act → World → Prop} {md : Region.Mode} {S S' : World → Prop}
end
end Go.Proofs.YtgelalbmhllccaaGreat
/- Contracts of the document's own answers of layer 7: rows, sums of bytes, what coefficients make of symbols. -/
namespace Go.Proofs.YtgelalbmhllccaaGreat
open Go.RowKit
set_option linter.unusedVariables false
set_option linter.unusedSimpArgs false
theorem infoRowSize : (Tryz.prog.info? 45).map (·.size) = some 2 := by kernel_rfl
end Go.Proofs.YtgelalbmhllccaaGreat
/- Matrices as lists of lists: the plain mathematics of layer 6's answers. -/
namespace Go.Proofs.YtgelalbmhllccaaGreat
/-- Are all rows of one length? -/
def fits (M : List (List Nat)) : Prop := ∀ r ∈ M, r.length = (M.headD []).length
instance (M : List (List Nat)) : Decidable (fits M) := by unfold fits; infer_instance
def sizeR (M : List (List Nat)) : Nat := if fits M then M.length else 0
def sizeC (M : List (List Nat)) : Nat := if fits M then (M.headD []).length else 0
/-- A product's number, its row, the product. -/
def dotN (r : List Nat) (N : List (List Nat)) (k n : Nat) : Nat := sumX (fun i => mulN (r.getD i 0) ((N.getD i []).getD k 0)) n
def rowN (r : List Nat) (N : List (List Nat)) (n c : Nat) : List Nat := tab c fun k => dotN r N k n
/-- The row, cleared by the first k rows. -/
def clearTo (nc : Nat) (M : List (List Nat)) (row : List Nat) : Nat → List Nat
  | 0 => row
  | k + 1 => vAddS nc (clearTo nc M row k) (M.getD k []) ((clearTo nc M row k).getD (vLead nc (M.getD k [])).toNat 0)
theorem clearTo_len (nc : Nat) (M : List (List Nat)) (row : List Nat) (h : row.length = nc) : ∀ k, (clearTo nc M row k).length = nc
  | 0 => h
  | _ + 1 => tab_length _ _
theorem vAddS_all {n c : Nat} {xs ys : List Nat} (hx : AllB xs) (hy : AllB ys) : AllB (vAddS n xs ys c) := fun x hm => by
  obtain ⟨i, _, rfl⟩ := List.mem_map.1 hm
  exact xor_lt (hx.getD i) (mulN_lt _ (hy.getD i))
theorem vScale_all {n c : Nat} {xs : List Nat} (hx : AllB xs) : AllB (vScale n xs c) := fun x hm => by
  obtain ⟨i, _, rfl⟩ := List.mem_map.1 hm
  exact mulN_lt _ (hx.getD i)
/-- The other rows, cleared; the new one laid ahead of the first whose lead lies behind. -/
def layTo (nc : Nat) (M : List (List Nat)) (u : List Nat) (L : Nat) : Nat → List (List Nat) × Bool
  | 0 => ([], false)
  | k + 1 =>
    let p := layTo nc M u L k
    let hit := !p.2 && decide ((L : Int) < vLead nc (M.getD k []))
    ((if hit = true then p.1 ++ [u] else p.1) ++ [vAddS nc (M.getD k []) u ((M.getD k []).getD L 0)], p.2 || hit)
/-- A row put into a reduced matrix. -/
def insertN (nc : Nat) (M : List (List Nat)) (row : List Nat) : List (List Nat) :=
  let v := clearTo nc M row M.length
  if vLead nc v < 0 then M
  else
    let L := (vLead nc v).toNat
    let u := vScale nc v (invN (v.getD L 0))
    let p := layTo nc M u L M.length
    if p.2 = true then p.1 else p.1 ++ [u]
end Go.Proofs.YtgelalbmhllccaaGreat
