/- One thing appended, of any number of cells, out of a block of its own. -/
import Derived.Test.YtgkihfemlbhioaaDoorObj
import Derived.Test.YtgkihfemlbhioaaDoorNew
import Derived.Test.YtgkihfemlbhioaaDoorFrm
namespace Go.Proofs.YtgkihfemlbhioaaDoor
open Go.RowKit Fr
set_option linter.unusedVariables false
set_option linter.unusedSimpArgs false
/-- What a type's things are: the nought, how many cells, how many bytes. -/
def InfoT (P : Program) (e : TypeId) (z : Value) (size bytes : Nat) : Prop := (P.info? e).map (fun i => (i.zero, i.size, i.bytes)) = some (some z, size, bytes)
section
variable {P : Program}
theorem run_append_cells {w : World} {base n c cx t e size bytes gx : Nat} {z : Value} {A : Option Addr} {l news : List Value} (ht : P.underlying t = some (.slice e)) (hi : InfoT P e z size bytes) (hz : z.cells.size = size) (hs : 0 < size) (hb : bytes ≤ 64)
    (hown : w.ownsRow base e size (.slice A n c) n l) (hnl : news.length = size) (hx : ∀ j u, news[j]? = some u → w.cell? ⟨gx, j, none⟩ = some u) (h1 : ∀ u ∈ news, u.oneCell' = true) (hlen : n ≤ 1000000) (hbase : base ≤ w.heap.size) (ty : TypeId) :
    ∃ A2 c2 w', (Builtin.append_ #[t, t] ty #[.slice A n c, .slice (some ⟨gx, 0, none⟩) 1 cx]).run P w = .ok (.slice A2 (n + 1) c2) w' ∧ w'.ownsRow base e size (.slice A2 (n + 1) c2) (n + 1) (l ++ news) ∧ w.grownBy w' (Value.slice A n c).ownBlock ∧
      ((Value.slice A2 (n + 1) c2).ownBlock = (Value.slice A n c).ownBlock ∨ (Value.slice A2 (n + 1) c2).ownBlock = some w.heap.size) := by
  obtain ⟨i0, hi0, hz0, hz1, hz2⟩ := info_parts hi
  have hbb : (n + 1) * bytes ≤ 140737488355328 := by
    have : (n + 1) * bytes ≤ 1000001 * 64 := Nat.mul_le_mul (by omega) hb
    omega
  obtain ⟨v', w', hrun, h2, h3, _, h5⟩ := run_append_own_at (P := P) w base t ty e i0 z size bytes ht hi0 hz0 hz1 hz2 hz hs _ n l hown ⟨gx, 0, none⟩ 1 cx news (by omega)
    (fun j u hu => by
      have ha : (⟨gx, 0, none⟩ : Addr).add j = ⟨gx, j, none⟩ := by unfold Addr.add; split <;> simp_all
      rw [ha]; exact hx j u hu) h1 (by unfold maxLen; omega) hbb hbase
  obtain ⟨A2, c2, rfl⟩ := own_shape h2
  exact ⟨A2, c2, w', hrun, h2, h3, h5⟩
/-- .. at the operation. -/
theorem wp_append_cells {w : World} {o : Oper} {a : Act} {K : Act → World → Prop} {Q : Exit → Act → World → Prop} (s x : Operand) (t : TypeId)
    (ho : o.op = .call { callee := .builtin .append, args := #[s, x], argTypes := #[t, t] }) {base n c cx e size bytes gx : Nat} {z : Value} {A : Option Addr} {l : List Value} (news : List Value) (ht : P.underlying t = some (.slice e)) (hi : InfoT P e z size bytes) (hz : z.cells.size = size) (hsz : 0 < size) (hb : bytes ≤ 64)
    (hs : a.eval s = .slice A n c) (hown : w.ownsRow base e size (.slice A n c) n l) (hx0 : a.eval x = .slice (some ⟨gx, 0, none⟩) 1 cx) (hnl : news.length = size) (hx : ∀ j u, news[j]? = some u → w.cell? ⟨gx, j, none⟩ = some u) (h1 : ∀ u ∈ news, u.oneCell' = true) (hlen : n ≤ 1000000) (hbase : base ≤ w.heap.size)
    (h : ∀ A2 c2 w', w'.ownsRow base e size (.slice A2 (n + 1) c2) (n + 1) (l ++ news) → w.grownBy w' (Value.slice A n c).ownBlock → ((Value.slice A2 (n + 1) c2).ownBlock = (Value.slice A n c).ownBlock ∨ (Value.slice A2 (n + 1) c2).ownBlock = some w.heap.size) → K (a.put o.dst (.slice A2 (n + 1) c2)) w') : o.wp P a w K Q := by
  obtain ⟨A2, c2, w', hr, h2, h3, h4⟩ := run_append_cells (P := P) (cx := cx) ht hi hz hsz hb hown hnl hx h1 hlen hbase o.type
  unfold Oper.wp execOp
  simp only [ho, resolve, invoke, builtin, Sem.run_bind, Sem.run_pure, Result.andThen_ok, List.map_toArray, List.map_cons, List.map_nil, hs, hx0, hr]
  exact h A2 c2 w' h2 h3 h4
theorem wpList_append_cells {w : World} {ops : Array Oper} {rest : List Oper} {o : Oper} {a : Act} {Q : Exit → Act → World → Prop} (hgd : o.guard = none) (s x : Operand) (t : TypeId)
    (ho : o.op = .call { callee := .builtin .append, args := #[s, x], argTypes := #[t, t] }) {base n c cx e size bytes gx : Nat} {z : Value} {A : Option Addr} {l : List Value} (news : List Value) (ht : P.underlying t = some (.slice e)) (hi : InfoT P e z size bytes) (hz : z.cells.size = size) (hsz : 0 < size) (hb : bytes ≤ 64)
    (hs : a.eval s = .slice A n c) (hown : w.ownsRow base e size (.slice A n c) n l) (hx0 : a.eval x = .slice (some ⟨gx, 0, none⟩) 1 cx) (hnl : news.length = size) (hx : ∀ j u, news[j]? = some u → w.cell? ⟨gx, j, none⟩ = some u) (h1 : ∀ u ∈ news, u.oneCell' = true) (hlen : n ≤ 1000000) (hbase : base ≤ w.heap.size)
    (h : ∀ A2 c2 w', w'.ownsRow base e size (.slice A2 (n + 1) c2) (n + 1) (l ++ news) → w.grownBy w' (Value.slice A n c).ownBlock → ((Value.slice A2 (n + 1) c2).ownBlock = (Value.slice A n c).ownBlock ∨ (Value.slice A2 (n + 1) c2).ownBlock = some w.heap.size) → wpList P ops Q rest (a.put o.dst (.slice A2 (n + 1) c2)) w') : wpList P ops Q (o :: rest) a w :=
  wpList_plain hgd fun _ hK => wp_append_cells s x t ho news ht hi hz hsz hb hs hown hx0 hnl hx h1 hlen hbase fun A2 c2 w' h2 h3 h4 => hK _ _ (h A2 c2 w' h2 h3 h4)
theorem step_append_cells {w : World} {ops : Array Oper} {o : Oper} {a : Act} {K : Act → World → Prop} {Q : Exit → Act → World → Prop} {E : Prop} (hgd : o.guard = none) (s x : Operand) (t : TypeId)
    (ho : o.op = .call { callee := .builtin .append, args := #[s, x], argTypes := #[t, t] }) {base n c cx e size bytes gx : Nat} {z : Value} {A : Option Addr} {l : List Value} (news : List Value) (ht : P.underlying t = some (.slice e)) (hi : InfoT P e z size bytes) (hz : z.cells.size = size) (hsz : 0 < size) (hb : bytes ≤ 64)
    (hs : a.eval s = .slice A n c) (hown : w.ownsRow base e size (.slice A n c) n l) (hx0 : a.eval x = .slice (some ⟨gx, 0, none⟩) 1 cx) (hnl : news.length = size) (hx : ∀ j u, news[j]? = some u → w.cell? ⟨gx, j, none⟩ = some u) (h1 : ∀ u ∈ news, u.oneCell' = true) (hlen : n ≤ 1000000) (hbase : base ≤ w.heap.size)
    (h : ∀ A2 c2 w', w'.ownsRow base e size (.slice A2 (n + 1) c2) (n + 1) (l ++ news) → w.grownBy w' (Value.slice A n c).ownBlock → ((Value.slice A2 (n + 1) c2).ownBlock = (Value.slice A n c).ownBlock ∨ (Value.slice A2 (n + 1) c2).ownBlock = some w.heap.size) → K (a.put o.dst (.slice A2 (n + 1) c2)) w') :
    if Region.wanted o (yielded ops a.tmps) = true then Oper.wp P o a w K Q else E := by
  have hw : Region.wanted o (yielded ops a.tmps) = true := by simp [Region.wanted, hgd]
  rw [if_pos hw]
  exact wp_append_cells s x t ho news ht hi hz hsz hb hs hown hx0 hnl hx h1 hlen hbase h
end
theorem infoBool : InfoT Tryd.prog 4 (.bool false) 1 1 := by unfold InfoT; kernel_rfl
theorem infoEdge : InfoT Tryd.prog 57 (.agg #[.int .i64 0, .int .i64 0]) 2 16 := by unfold InfoT; kernel_rfl
theorem infoRank : InfoT Tryd.prog 53 (.agg #[.int .u64 0, .int .i64 0]) 2 16 := by unfold InfoT; kernel_rfl
theorem infoEdges : InfoT Tryd.prog 51 (.slice none 0 0) 1 24 := by unfold InfoT; kernel_rfl
/-- Rows of one's own, of things of any number of cells. -/
theorem owns_keep {w w' : World} {base e size n : Nat} {v : Value} {l : List Value} (h : w.ownsRow base e size v n l) (k : Keep w w') : w'.ownsRow base e size v n l :=
  (Turned.of_keep (F := fun _ => False) k).owns h (fun _ _ e => e)
theorem owns_lower {w : World} {base base' e size n c : Nat} {A : Option Addr} {l : List Value} (h : w.ownsRow base e size (.slice A n c) n l) (hb : base' ≤ base) : w.ownsRow base' e size (.slice A n c) n l := by
  refine ⟨h.1, ?_⟩
  rcases h.2 with h1 | ⟨g, cap, cur, hv, hg, r⟩
  · exact Or.inl h1
  · exact Or.inr ⟨g, cap, cur, hv, by omega, r⟩
/-- Where such a row lies. -/
theorem owns_at {w : World} {base e size n c : Nat} {A : Option Addr} {l : List Value} (h : w.ownsRow base e size (.slice A n c) n l) (hn : 0 < n) : ∃ g, A = some ⟨g, 0, none⟩ ∧ base ≤ g ∧ g < w.heap.size ∧ ∀ j, j < n * size → w.cell? ⟨g, j, none⟩ = l[j]? := by
  rcases h.2 with ⟨hv, h0⟩ | ⟨g, cap, cur, hv, hg, hh, r⟩
  · omega
  · injection hv with h1 _ _
    subst h1
    exact ⟨g, rfl, hg, (Array.getElem?_eq_some_iff.1 hh).1, fun j hj => World.ownsRow.cellAt h j hj⟩
theorem owns_le {w : World} {base e size n c : Nat} {A : Option Addr} {l : List Value} (h : w.ownsRow base e size (.slice A n c) n l) : n ≤ c := by
  rcases h.2 with ⟨hv, h0⟩ | ⟨g, cap, cur, hv, _, _, hle, _⟩
  · omega
  · injection hv with _ _ h3; omega
theorem owns_nil {w : World} {base e size c : Nat} {A : Option Addr} {l : List Value} (h : w.ownsRow base e size (.slice A 0 c) 0 l) : l = [] := by
  have := h.1
  simpa using this
/-- Bools, things of two cells, slices: as lists. -/
theorem ups_owned {w : World} {base n c : Nat} {A : Option Addr} {l : List Bool} (h : w.ownsRow base 4 1 (.slice A n c) n (l.map Value.bool)) : UpsAt w w.heap.size A n l := by
  have hl : l.length = n := by have := h.1; simpa using this
  refine ⟨hl, fun hn => ?_⟩
  obtain ⟨g, rfl, h1, h2, h3⟩ := owns_at h hn
  refine ⟨g, 0, rfl, h2, fun i x hx => ?_⟩
  have hi : i < l.length := by
    rcases Nat.lt_or_ge i l.length with h1 | h1
    · exact h1
    · rw [List.getElem?_eq_none h1] at hx; cases hx
  rw [Nat.zero_add, h3 i (by omega), List.getElem?_map, hx]
  rfl
theorem flat_pair {α : Type} (f g : α → Value) : ∀ (l : List α) (i : Nat) (x : α), l[i]? = some x → (l.flatMap fun e => [f e, g e])[i * 2]? = some (f x) ∧ (l.flatMap fun e => [f e, g e])[i * 2 + 1]? = some (g x)
  | [], i, x, h => by simp at h
  | e :: l, 0, x, h => by
    simp at h
    subst h
    exact ⟨rfl, rfl⟩
  | e :: l, i + 1, x, h => by
    have h2 : l[i]? = some x := by simpa using h
    have := flat_pair f g l i x h2
    rw [List.flatMap_cons]
    exact ⟨by rw [show (i + 1) * 2 = i * 2 + 1 + 1 by omega]; exact this.1, by rw [show (i + 1) * 2 + 1 = i * 2 + 1 + 1 + 1 by omega]; exact this.2⟩
theorem fields_owned {α : Type} (f g : α → Value) {w : World} {base e n c : Nat} {A : Option Addr} {l : List α} (h : w.ownsRow base e 2 (.slice A n c) n (l.flatMap fun x => [f x, g x])) (hl : l.length = n) : FieldsAt w w.heap.size A n 2 (l.map fun x => [f x, g x]) := by
  refine ⟨by simpa using hl, fun r hr => by simp at hr; obtain ⟨x, _, rfl⟩ := hr; rfl, fun hn => ?_⟩
  obtain ⟨b, rfl, h1, h2, h3⟩ := owns_at h hn
  refine ⟨b, 0, rfl, h2, fun i r j v hr hv => ?_⟩
  rw [List.getElem?_map] at hr
  cases hx : l[i]? with
  | none => rw [hx] at hr; cases hr
  | some x =>
    rw [hx] at hr
    injection hr with hr
    subst hr
    have hi : i < l.length := by
      rcases Nat.lt_or_ge i l.length with h1 | h1
      · exact h1
      · rw [List.getElem?_eq_none h1] at hx; cases hx
    have hp := flat_pair f g l i x hx
    match j, hv with
    | 0, hv =>
      simp at hv
      subst hv
      rw [Nat.zero_add, Nat.add_zero, h3 _ (by omega), hp.1]
    | 1, hv =>
      simp at hv
      subst hv
      rw [Nat.zero_add, h3 _ (by omega), hp.2]
/-- Their cells, as lists. -/
def rankCells (r : Nat × Int) : List Value := [.int .u64 (r.1 : Int), .int .i64 r.2]
def edgeCells (e : Int × Int) : List Value := [.int .i64 e.1, .int .i64 e.2]
theorem ranks_owned {w : World} {base n c : Nat} {A : Option Addr} {l : List (Nat × Int)} (h : w.ownsRow base 53 2 (.slice A n c) n (l.flatMap rankCells)) (hl : l.length = n) : RanksAt w w.heap.size A n l :=
  fields_owned (fun r : Nat × Int => .int .u64 (r.1 : Int)) (fun r => .int .i64 r.2) h hl
theorem edges_owned {w : World} {base n c : Nat} {A : Option Addr} {l : List (Int × Int)} (h : w.ownsRow base 57 2 (.slice A n c) n (l.flatMap edgeCells)) (hl : l.length = n) : EdgesAt w w.heap.size A n l :=
  fields_owned (fun e : Int × Int => .int .i64 e.1) (fun e => .int .i64 e.2) h hl
end Go.Proofs.YtgkihfemlbhioaaDoor
