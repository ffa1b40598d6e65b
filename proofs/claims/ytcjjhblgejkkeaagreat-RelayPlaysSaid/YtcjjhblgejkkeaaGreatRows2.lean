/- Slices of slices of bytes in new memory: appended to, as rows. -/
import Derived.Test.YtcjjhblgejkkeaaGreatOpen
namespace Go.Proofs.YtcjjhblgejkkeaaGreat
open Go.RowKit

/-- New memory: a slice of slices in a block from base on. -/
def OwnRows (w : World) (base : Nat) (e : TypeId) (A : Option Addr) (n c : Nat) (rs : List RowV) : Prop :=
  w.ownsRow base e 1 (.slice A n c) n (rs.map RowV.val)
namespace OwnRows
variable {w w' : World} {base n c : Nat} {e : TypeId} {A : Option Addr} {rs : List RowV}
theorem length (h : OwnRows w base e A n c rs) : rs.length = n := by have := h.1; simpa using this
theorem none_ (w : World) (base : Nat) (e : TypeId) : OwnRows w base e none 0 0 [] := World.ownsRow_nil w base e 1
theorem keep (h : OwnRows w base e A n c rs) (k : Keep w w') : OwnRows w' base e A n c rs :=
  h.kept (row := none) ⟨k.os, k.tape, k.output, k.size, fun i hi _ => k.block i hi⟩ (by
    cases hb : (Value.slice A n c).ownBlock with
    | none => exact Or.inl rfl
    | some g => exact Or.inr (by simp))
theorem alloc (h : OwnRows w base e A n c rs) (o : Obj) : OwnRows (w.alloc o) base e A n c rs := World.ownsRow.alloc h o
theorem drew (h : OwnRows w base e A n c rs) : OwnRows w.drew base e A n c rs := h
theorem rowLe (h : OwnRows w base e A n c rs) : ∀ k, (Value.slice A n c).ownBlock = some k → base ≤ k := fun k hk => (h.lt k hk).1
/-- Where it lies. -/
theorem block (h : OwnRows w base e A n c rs) (hn : 0 < n) : ∃ g, A = some ⟨g, 0, none⟩ ∧ base ≤ g ∧ g < w.heap.size := by
  rcases h.2 with ⟨hv, h0⟩ | ⟨g, cap, cur, hv, hg, hh, _⟩
  · omega
  · injection hv with h1 h2 h3
    exact ⟨g, h1, hg, (Array.getElem?_eq_some_iff.1 hh).1⟩
theorem rows (h : OwnRows w base e A n c rs) (hr : ∀ r ∈ rs, Bytes w w.heap.size r.A r.n r.xs ∧ r.n ≤ 140737488351232 ∧ r.n ≤ r.c) : RowsAt w w.heap.size A n rs := by
  refine ⟨h.length, hr, fun hn => ?_⟩
  obtain ⟨g, rfl, _, hlt⟩ := h.block hn
  refine ⟨g, 0, rfl, hlt, fun i r hi => ?_⟩
  have hc := World.ownsRow.cells h (g := g) rfl i r.val (by rw [List.getElem?_map, hi]; rfl)
  have ha : (⟨g, 0, none⟩ : Addr).add i = ⟨g, 0 + i, none⟩ := by unfold Addr.add; split <;> simp_all
  rwa [ha] at hc
end OwnRows
/-- Blocks of different elements are different blocks. -/
theorem blocks_apart {w : World} {base base' n n' c c' : Nat} {e e' : TypeId} {A A' : Option Addr} {xs : List Nat} {rs : List RowV} (h : Own w base e A n c xs) (h' : OwnRows w base' e' A' n' c' rs) (he : e ≠ e') :
    (Value.slice A n c).ownBlock = none ∨ (Value.slice A n c).ownBlock ≠ (Value.slice A' n' c').ownBlock := by
  rcases h.1.2 with ⟨hv, _⟩ | ⟨g, cap, cur, hv, _, hh, _⟩
  · rw [hv]; exact Or.inl rfl
  · rcases h'.2 with ⟨hv', _⟩ | ⟨g', cap', cur', hv', _, hh', _⟩
    · rw [hv, hv']; exact Or.inr (by simp [Value.ownBlock])
    · rw [hv, hv']
      refine Or.inr fun e1 => ?_
      have : g = g' := by simpa [Value.ownBlock] using e1
      subst this
      rw [hh] at hh'
      simp at hh'
      exact he hh'.2
theorem Own.grown {w w' : World} {base n c : Nat} {e : TypeId} {A : Option Addr} {xs : List Nat} {row : Option Nat} (h : Own w base e A n c xs) (hg : w.grownBy w' row) (hn : (Value.slice A n c).ownBlock = none ∨ (Value.slice A n c).ownBlock ≠ row) : Own w' base e A n c xs :=
  ⟨h.1.kept hg hn, h.2⟩
section
variable {P : Program}
/-- append(rows, row). -/
theorem run_append_row {w : World} {base n c cx t e : Nat} {A : Option Addr} {rs : List RowV} {ad : Addr} (r : RowV) (ht : P.underlying t = some (.slice e))
    (hi : (P.info? e).map (fun i => (i.zero, i.size, i.bytes)) = some (some (.slice none 0 0), 1, 24)) (hown : OwnRows w base e A n c rs) (hx : w.cell? ad = some r.val) (hlen : n ≤ 1000000) (hbase : base ≤ w.heap.size) (ty : TypeId) :
    ∃ A2 c2 w', (Builtin.append_ #[t, t] ty #[.slice A n c, .slice (some ad) 1 cx]).run P w = .ok (.slice A2 (n + 1) c2) w' ∧ OwnRows w' base e A2 (n + 1) c2 (rs ++ [r]) ∧ w.grownBy w' (Value.slice A n c).ownBlock ∧ ((Value.slice A2 (n + 1) c2).ownBlock = (Value.slice A n c).ownBlock ∨ (Value.slice A2 (n + 1) c2).ownBlock = some w.heap.size) := by
  obtain ⟨i0, hi0, hz0, hz1, hz2⟩ := info_parts hi
  obtain ⟨v', w', hrun, h2, h3, _, h5⟩ := run_append_own_at (P := P) w base t ty e i0 (.slice none 0 0) 1 24 ht hi0 hz0 hz1 hz2 rfl (by decide) _ n (rs.map RowV.val) hown ad 1 cx [r.val] rfl
    (fun j u hu => by
      match j, hu with
      | 0, hu =>
        simp at hu
        subst hu
        have ha : ad.add 0 = ad := by unfold Addr.add; split <;> simp_all
        rw [ha]; exact hx)
    (fun u hu => by simp at hu; subst hu; rfl) (by unfold maxLen; omega) (by omega) hbase
  obtain ⟨A2, c2, rfl⟩ := own_shape h2
  exact ⟨A2, c2, w', hrun, by simpa [OwnRows] using h2, h3, h5⟩
theorem wp_append_row {w : World} {o : Oper} {a : Act} {K : Act → World → Prop} {Q : Exit → Act → World → Prop} (s x : Operand) (t : TypeId)
    (ho : o.op = .call { callee := .builtin .append, args := #[s, x], argTypes := #[t, t] }) {base n c cx e : Nat} {A : Option Addr} {rs : List RowV} {ad : Addr} (r : RowV) (ht : P.underlying t = some (.slice e))
    (hi : (P.info? e).map (fun i => (i.zero, i.size, i.bytes)) = some (some (.slice none 0 0), 1, 24)) (hs : a.eval s = .slice A n c) (hown : OwnRows w base e A n c rs) (hx0 : a.eval x = .slice (some ad) 1 cx) (hx : w.cell? ad = some r.val) (hlen : n ≤ 1000000) (hbase : base ≤ w.heap.size)
    (h : ∀ A2 c2 w', OwnRows w' base e A2 (n + 1) c2 (rs ++ [r]) → w.grownBy w' (Value.slice A n c).ownBlock → ((Value.slice A2 (n + 1) c2).ownBlock = (Value.slice A n c).ownBlock ∨ (Value.slice A2 (n + 1) c2).ownBlock = some w.heap.size) → K (a.put o.dst (.slice A2 (n + 1) c2)) w') : o.wp P a w K Q := by
  obtain ⟨A2, c2, w', hr, h2, h3, h4⟩ := run_append_row (P := P) (cx := cx) r ht hi hown hx hlen hbase o.type
  unfold Oper.wp execOp
  simp only [ho, resolve, invoke, builtin, Sem.run_bind, Sem.run_pure, Result.andThen_ok, List.map_toArray, List.map_cons, List.map_nil, hs, hx0, hr]
  exact h A2 c2 w' h2 h3 h4
theorem wpList_append_row {w : World} {ops : Array Oper} {rest : List Oper} {o : Oper} {a : Act} {Q : Exit → Act → World → Prop} (hgd : o.guard = none) (s x : Operand) (t : TypeId)
    (ho : o.op = .call { callee := .builtin .append, args := #[s, x], argTypes := #[t, t] }) {base n c cx e : Nat} {A : Option Addr} {rs : List RowV} {ad : Addr} (r : RowV) (ht : P.underlying t = some (.slice e))
    (hi : (P.info? e).map (fun i => (i.zero, i.size, i.bytes)) = some (some (.slice none 0 0), 1, 24)) (hs : a.eval s = .slice A n c) (hown : OwnRows w base e A n c rs) (hx0 : a.eval x = .slice (some ad) 1 cx) (hx : w.cell? ad = some r.val) (hlen : n ≤ 1000000) (hbase : base ≤ w.heap.size)
    (h : ∀ A2 c2 w', OwnRows w' base e A2 (n + 1) c2 (rs ++ [r]) → w.grownBy w' (Value.slice A n c).ownBlock → ((Value.slice A2 (n + 1) c2).ownBlock = (Value.slice A n c).ownBlock ∨ (Value.slice A2 (n + 1) c2).ownBlock = some w.heap.size) → wpList P ops Q rest (a.put o.dst (.slice A2 (n + 1) c2)) w') : wpList P ops Q (o :: rest) a w :=
  wpList_plain hgd fun _ hK => wp_append_row s x t ho r ht hi hs hown hx0 hx hlen hbase fun A2 c2 w' h2 h3 h4 => hK _ _ (h A2 c2 w' h2 h3 h4)
end
end Go.Proofs.YtcjjhblgejkkeaaGreat
