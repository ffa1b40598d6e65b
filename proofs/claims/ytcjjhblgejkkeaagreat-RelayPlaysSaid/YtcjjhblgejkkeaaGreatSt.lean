/- Slices of rows (coefficients and payload): read, and laid in new memory. -/
import Derived.Test.YtcjjhblgejkkeaaGreatRowsApp
import Derived.Test.YtcjjhblgejkkeaaGreatNew
import Derived.Maps.AppendAt
namespace Go.Proofs.YtcjjhblgejkkeaaGreat
open Go.RowKit
/-- A row: coefficients, payload. -/
structure PairV where
  a : RowV
  b : RowV
def PairV.vals (p : PairV) : List Value := [p.a.val, p.b.val]
/-- Both, side by side. -/
def PairV.xs (p : PairV) : List Nat := p.a.xs ++ p.b.xs
/-- Such a row as a value. -/
def PairV.agg (p : PairV) : Value := .agg #[.slice p.a.A p.a.n p.a.c, .slice p.b.A p.b.n p.b.c]
/-- A slice of rows in blocks of F, its own block among them. -/
def StIn (w : World) (F : Nat → Prop) (A : Option Addr) (n : Nat) (ps : List PairV) : Prop :=
  ps.length = n ∧ (∀ p ∈ ps, LiesIn w F p.a ∧ LiesIn w F p.b) ∧ (0 < n → ∃ b off, A = some ⟨b, off, none⟩ ∧ F b ∧ ∀ i p, ps[i]? = some p → w.cell? ⟨b, off + i * 2, none⟩ = some p.a.val ∧ w.cell? ⟨b, off + i * 2 + 1, none⟩ = some p.b.val)
namespace StIn
variable {F F' G : Nat → Prop} {w w' : World} {A : Option Addr} {n : Nat} {ps : List PairV}
theorem turned (h : StIn w F A n ps) (k : Turned G w w') (hd : ∀ b, F b → ¬ G b) : StIn w' F A n ps := ⟨h.1, fun p hp => ⟨(h.2.1 p hp).1.turned k hd, (h.2.1 p hp).2.turned k hd⟩, fun hp => by
  obtain ⟨b, off, e, hb, hc⟩ := h.2.2 hp
  exact ⟨b, off, e, hb, fun i p hi => ⟨k.cell (hc i p hi).1 (hd b hb), k.cell (hc i p hi).2 (hd b hb)⟩⟩⟩
theorem keep (h : StIn w F A n ps) (k : Keep w w') : StIn w' F A n ps := h.turned (Turned.of_keep (F := fun _ => False) k) fun _ _ e => e
theorem mono (h : StIn w F A n ps) (hF : ∀ b, F b → F' b) : StIn w F' A n ps := ⟨h.1, fun p hp => ⟨(h.2.1 p hp).1.mono hF, (h.2.1 p hp).2.mono hF⟩, fun hp => by
  obtain ⟨b, off, e, hb, hc⟩ := h.2.2 hp
  exact ⟨b, off, e, hF b hb, hc⟩⟩
theorem nothing (w : World) (F : Nat → Prop) (A : Option Addr) : StIn w F A 0 [] := ⟨rfl, fun _ h => by simp at h, fun h => absurd h (by omega)⟩
theorem at_ (h : StIn w F A n ps) {k : Nat} (hk : k < n) : ∃ b off p, A = some ⟨b, off, none⟩ ∧ F b ∧ ps[k]? = some p ∧ w.cell? ⟨b, off + k * 2, none⟩ = some (.slice p.a.A p.a.n p.a.c) ∧ w.cell? ⟨b, off + k * 2 + 1, none⟩ = some (.slice p.b.A p.b.n p.b.c) ∧ LiesIn w F p.a ∧ LiesIn w F p.b := by
  obtain ⟨b, off, e, hb, hc⟩ := h.2.2 (by omega)
  have hl : k < ps.length := by rw [h.1]; exact hk
  have hp := List.getElem?_eq_getElem hl
  have hm := h.2.1 _ (List.getElem_mem hl)
  exact ⟨b, off, ps[k], e, hb, hp, (hc k _ hp).1, (hc k _ hp).2, hm.1, hm.2⟩
end StIn
/-- New memory: rows in a block from base on. -/
def OwnSt (w : World) (base : Nat) (A : Option Addr) (n c : Nat) (ps : List PairV) : Prop :=
  w.ownsRow base 34 2 (.slice A n c) n (ps.flatMap PairV.vals)
theorem vals_len (ps : List PairV) : (ps.flatMap PairV.vals).length = ps.length * 2 := by
  induction ps with
  | nil => rfl
  | cons p ps ih => rw [List.flatMap_cons, List.length_append, ih, List.length_cons]; simp [PairV.vals]; omega
theorem vals_at : ∀ (ps : List PairV) (i : Nat) (p : PairV), ps[i]? = some p → (ps.flatMap PairV.vals)[i * 2]? = some p.a.val ∧ (ps.flatMap PairV.vals)[i * 2 + 1]? = some p.b.val
  | [], i, p, h => by simp at h
  | q :: ps, 0, p, h => by
    simp at h
    subst h
    exact ⟨rfl, rfl⟩
  | q :: ps, i + 1, p, h => by
    have ih := vals_at ps i p (by simpa using h)
    have e : ((q :: ps).flatMap PairV.vals) = q.a.val :: q.b.val :: ps.flatMap PairV.vals := rfl
    rw [e, show (i + 1) * 2 = i * 2 + 1 + 1 by omega]
    simpa using ih
namespace OwnSt
variable {w w' : World} {base n c : Nat} {A : Option Addr} {ps : List PairV}
theorem length (h : OwnSt w base A n c ps) : ps.length = n := by have := h.1; rw [vals_len] at this; omega
theorem none_ (w : World) (base : Nat) : OwnSt w base none 0 0 [] := World.ownsRow_nil w base _ 2
theorem keep (h : OwnSt w base A n c ps) (k : Keep w w') : OwnSt w' base A n c ps :=
  h.kept (row := none) ⟨k.os, k.tape, k.output, k.size, fun i hi _ => k.block i hi⟩ (by
    cases hb : (Value.slice A n c).ownBlock with
    | none => exact Or.inl rfl
    | some g => exact Or.inr (by simp))
theorem turned {F : Nat → Prop} (h : OwnSt w base A n c ps) (k : Turned F w w') (hn : ∀ b, (Value.slice A n c).ownBlock = some b → ¬ F b) : OwnSt w' base A n c ps := k.owns h hn
theorem lower {base' : Nat} (h : OwnSt w base A n c ps) (hb : base' ≤ base) : OwnSt w base' A n c ps := by
  refine ⟨h.1, ?_⟩
  rcases h.2 with h1 | ⟨g, cap, cur, hv, hg, r⟩
  · exact Or.inl h1
  · exact Or.inr ⟨g, cap, cur, hv, Nat.le_trans hb hg, r⟩
theorem block (h : OwnSt w base A n c ps) (hn : 0 < n) : ∃ g, A = some ⟨g, 0, none⟩ ∧ base ≤ g ∧ g < w.heap.size := by
  rcases h.2 with ⟨hv, h0⟩ | ⟨g, cap, cur, hv, hg, hh, _⟩
  · omega
  · injection hv with h1 h2 h3
    exact ⟨g, h1, hg, (Array.getElem?_eq_some_iff.1 hh).1⟩
theorem le (h : OwnSt w base A n c ps) : n ≤ c := by
  rcases h.2 with ⟨hv, h0⟩ | ⟨g, cap, cur, hv, _, _, hle, _⟩
  · omega
  · injection hv with _ _ h3; omega
theorem stIn {F : Nat → Prop} (h : OwnSt w base A n c ps) (hp : ∀ p ∈ ps, LiesIn w F p.a ∧ LiesIn w F p.b) (hF : ∀ b, (Value.slice A n c).ownBlock = some b → F b) : StIn w F A n ps := by
  refine ⟨h.length, hp, fun hn => ?_⟩
  obtain ⟨g, rfl, _, hlt⟩ := h.block hn
  refine ⟨g, 0, rfl, hF g rfl, fun i p hi => ?_⟩
  obtain ⟨v1, v2⟩ := vals_at ps i p hi
  have c1 := World.ownsRow.cells h (g := g) rfl _ _ v1
  have c2 := World.ownsRow.cells h (g := g) rfl _ _ v2
  have ha : ∀ j, (⟨g, 0, none⟩ : Addr).add j = ⟨g, 0 + j, none⟩ := fun j => by unfold Addr.add; split <;> simp_all
  rw [ha] at c1 c2
  exact ⟨c1, c2⟩
end OwnSt
theorem infoSt : (Tryz.prog.info? 34).map (fun i => (i.zero, i.size, i.bytes)) = some (some (.agg #[.slice none 0 0, .slice none 0 0]), 2, 48) := by kernel_rfl
theorem run_append_st {w : World} {base n c cx t : Nat} {A : Option Addr} {ps : List PairV} {ad : Addr} (p : PairV) (ht : Tryz.prog.underlying t = some (.slice 34)) (hown : OwnSt w base A n c ps) (h0 : w.cell? (ad.add 0) = some p.a.val) (h1 : w.cell? (ad.add 1) = some p.b.val) (hlen : n ≤ 1000000) (hbase : base ≤ w.heap.size) (ty : TypeId) :
    ∃ A2 c2 w', (Builtin.append_ #[t, t] ty #[.slice A n c, .slice (some ad) 1 cx]).run Tryz.prog w = .ok (.slice A2 (n + 1) c2) w' ∧ OwnSt w' base A2 (n + 1) c2 (ps ++ [p]) ∧ w.grownBy w' (Value.slice A n c).ownBlock ∧ ((Value.slice A2 (n + 1) c2).ownBlock = (Value.slice A n c).ownBlock ∨ (Value.slice A2 (n + 1) c2).ownBlock = some w.heap.size) := by
  obtain ⟨i0, hi0, hz0, hz1, hz2⟩ := info_parts infoSt
  obtain ⟨v', w', hrun, h2, h3, _, h5⟩ := run_append_own_at (P := Tryz.prog) w base t ty _ i0 (.agg #[.slice none 0 0, .slice none 0 0]) 2 48 ht hi0 hz0 hz1 hz2 rfl (by decide) _ n _ hown ad 1 cx p.vals rfl
    (fun j u hj => by
      match j, hj with
      | 0, hj => simp [PairV.vals] at hj; subst hj; exact h0
      | 1, hj => simp [PairV.vals] at hj; subst hj; exact h1
      | j + 2, hj => simp [PairV.vals] at hj)
    (fun u hu => by
      simp [PairV.vals] at hu
      rcases hu with rfl | rfl <;> rfl) (by unfold maxLen; omega) (by omega) hbase
  have e : ps.flatMap PairV.vals ++ p.vals = (ps ++ [p]).flatMap PairV.vals := by rw [List.flatMap_append]; simp
  rw [e] at h2
  obtain ⟨A2, c2, rfl⟩ := own_shape h2
  exact ⟨A2, c2, w', hrun, h2, h3, h5⟩
/-- append(rows, row), the row in a block of one. -/
theorem wpList_append_st {ops : Array Oper} {rest : List Oper} {o : Oper} {a : Act} {Q : Exit → Act → World → Prop} {w : World} (hgd : o.guard = none) (s x : Operand) (t : TypeId)
    (ho : o.op = .call { callee := .builtin .append, args := #[s, x], argTypes := #[t, t] }) {base n c cx : Nat} {A : Option Addr} {ps : List PairV} {gx : Nat} (p : PairV) (ht : Tryz.prog.underlying t = some (.slice 34))
    (hs : a.eval s = .slice A n c) (hown : OwnSt w base A n c ps) (hx0 : a.eval x = .slice (some ⟨gx, 0, none⟩) 1 cx) (h0 : w.cell? ⟨gx, 0, none⟩ = some p.a.val) (h1 : w.cell? ⟨gx, 1, none⟩ = some p.b.val) (hlen : n ≤ 1000000) (hbase : base ≤ w.heap.size)
    (h : ∀ A2 c2 w', OwnSt w' base A2 (n + 1) c2 (ps ++ [p]) → w.grownBy w' (Value.slice A n c).ownBlock → ((Value.slice A2 (n + 1) c2).ownBlock = (Value.slice A n c).ownBlock ∨ (Value.slice A2 (n + 1) c2).ownBlock = some w.heap.size) → wpList Tryz.prog ops Q rest (a.put o.dst (.slice A2 (n + 1) c2)) w') : wpList Tryz.prog ops Q (o :: rest) a w := by
  refine wpList_plain hgd fun _ hK => ?_
  have ha : ∀ j, (⟨gx, 0, none⟩ : Addr).add j = ⟨gx, j, none⟩ := fun j => by unfold Addr.add; split <;> simp_all
  obtain ⟨A2, c2, w', hr, h2, h3, h4⟩ := run_append_st (cx := cx) (ad := ⟨gx, 0, none⟩) p ht hown (by rw [ha]; exact h0) (by rw [ha]; exact h1) hlen hbase o.type
  unfold Oper.wp execOp
  simp only [ho, resolve, invoke, builtin, Sem.run_bind, Sem.run_pure, Result.andThen_ok, List.map_toArray, List.map_cons, List.map_nil, hs, hx0, hr]
  exact hK _ _ (h A2 c2 w' h2 h3 h4)
end Go.Proofs.YtcjjhblgejkkeaaGreat
