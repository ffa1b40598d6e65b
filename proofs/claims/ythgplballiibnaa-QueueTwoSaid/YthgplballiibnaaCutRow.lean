/- A slice of one's own that may begin anywhere in its block ('q = q[1:]'): cut at its head, appended to. -/
import Derived.Test.YthgplballiibnaaObj
import Derived.ArgAppend
import Derived.Deep.MidRow
namespace Go.Proofs.Ythgplballiibnaa
open Go.RowKit
/-- New memory: a slice whose cells, its spare ones too, may be written. -/
structure OwnsAt (w : World) (base size : Nat) (A : Option Addr) (n c : Nat) (xs : List Value) : Prop where
  length : xs.length = n * size
  cap : n ≤ c ∧ c ≤ maxLen
  lies : (A = none ∧ c = 0) ∨ ∃ g off, A = some ⟨g, off, none⟩ ∧ base ≤ g ∧ g < w.heap.size ∧ (∀ j u, xs[j]? = some u → w.cell? ⟨g, off + j, none⟩ = some u) ∧ ∀ j, j < c * size → (w.cell? ⟨g, off + j, none⟩).isSome = true ∧ w.frozen? ⟨g, off + j, none⟩ = false
namespace OwnsAt
variable {w w' : World} {base size n c : Nat} {A : Option Addr} {xs : List Value}
theorem nothing (w : World) (base size : Nat) : OwnsAt w base size none 0 0 [] := ⟨by simp, ⟨Nat.le_refl _, Nat.zero_le _⟩, Or.inl ⟨rfl, rfl⟩⟩
theorem of_own {e : TypeId} {v : Value} (h : w.ownsRow base e size v n xs) (hs : size ≤ 1) : ∃ A c, v = .slice A n c ∧ OwnsAt w base size A n c xs := by
  rcases h.2 with ⟨rfl, rfl⟩ | ⟨g, cap, cur, rfl, hg, hh, hn, hc, hsz, ht⟩
  · have : xs = [] := List.eq_nil_of_length_eq_zero (by rw [h.1]; simp)
    subst this
    exact ⟨none, 0, rfl, nothing w base size⟩
  · refine ⟨_, cap, rfl, h.1, ⟨hn, hc⟩, Or.inr ⟨g, 0, rfl, hg, (Array.getElem?_eq_some_iff.1 hh).1, fun j u hu => ?_, fun j hj => ?_⟩⟩
    · have e := World.ownsRow.cells h (g := g) rfl j u hu
      have ha : (⟨g, 0, none⟩ : Addr).add j = ⟨g, 0 + j, none⟩ := by unfold Addr.add; split <;> simp_all
      rwa [ha] at e
    · have hj2 : 0 + j < cur.size := by omega
      constructor
      · simp [World.cell?, hh, Array.getElem?_eq_getElem (show j < cur.size by omega)]
      · simp [World.frozen?, hh]
theorem block (h : OwnsAt w base size A n c xs) : ∀ b, (Value.slice A n c).ownBlock = some b → base ≤ b ∧ b < w.heap.size := fun b hb => by
  rcases h.lies with ⟨rfl, _⟩ | ⟨g, off, rfl, h1, h2, _⟩
  · simp [Value.ownBlock] at hb
  · simp [Value.ownBlock] at hb; subst hb; exact ⟨h1, h2⟩
theorem turned {G : Nat → Prop} (h : OwnsAt w base size A n c xs) (k : Turned G w w') (hn : ∀ b, (Value.slice A n c).ownBlock = some b → ¬ G b) : OwnsAt w' base size A n c xs := by
  refine ⟨h.length, h.cap, ?_⟩
  rcases h.lies with e | ⟨g, off, rfl, h1, h2, h3, h4⟩
  · exact Or.inl e
  · have hb := k.block g h2 (hn g rfl)
    exact Or.inr ⟨g, off, rfl, h1, Nat.lt_of_lt_of_le h2 k.size, fun j u hu => by rw [World.cell?_of_block (w := w) hb]; exact h3 j u hu, fun j hj => by rw [World.cell?_of_block (w := w) hb, World.frozen?_of_block (w := w) hb]; exact h4 j hj⟩
theorem keep (h : OwnsAt w base size A n c xs) (k : Keep w w') : OwnsAt w' base size A n c xs := h.turned (Turned.of_keep (F := fun _ => False) k) fun _ _ e => e
theorem lower {base' : Nat} (h : OwnsAt w base size A n c xs) (hb : base' ≤ base) : OwnsAt w base' size A n c xs := ⟨h.length, h.cap, by
  rcases h.lies with e | ⟨g, off, e, h1, r⟩
  · exact Or.inl e
  · exact Or.inr ⟨g, off, e, by omega, r⟩⟩
/-- Cut at its head. -/
theorem drop {s : Nat} (h : OwnsAt w base 1 A n c xs) (hs : s ≤ n) : OwnsAt w base 1 (dropA A c s) (n - s) (c - s) (xs.drop s) := by
  have hl := h.length
  have hc := h.cap
  refine ⟨by rw [List.length_drop]; omega, by omega, ?_⟩
  rcases h.lies with ⟨rfl, rfl⟩ | ⟨g, off, rfl, h1, h2, h3, h4⟩
  · refine Or.inl ⟨?_, by omega⟩
    rw [dropA]; split <;> rfl
  · by_cases e : c = s
    · refine Or.inr ⟨g, off, by rw [dropA, if_pos e], h1, h2, fun j u hu => ?_, fun j hj => by omega⟩
      rw [List.getElem?_drop] at hu
      rw [List.getElem?_eq_none (by omega)] at hu; cases hu
    · refine Or.inr ⟨g, off + s, dropA_some g off c s (by omega), h1, h2, fun j u hu => ?_, fun j hj => ?_⟩
      · rw [List.getElem?_drop] at hu
        rw [Nat.add_assoc]; exact h3 _ u hu
      · rw [Nat.add_assoc]; exact h4 _ (by omega)
end OwnsAt
theorem setCells_turned (b : Nat) : ∀ (vs : List Value) (o : Nat) (w : World), Turned (fun x => x = b) w (w.setCells b o vs)
  | [], _, w => Turned.refl _ w
  | v :: vs, o, w => (Turned.set (F := fun x => x = b) w ⟨b, o, none⟩ v rfl).trans (setCells_turned b vs (o + 1) _) fun i e => Or.inl e
section
variable {P : Program}
/-- append(slice, others...). -/
theorem run_append_at {w : World} {base n c m cx t e size bytes : Nat} {z : Value} {A B : Option Addr} {xs news : List Value} (ht : P.underlying t = some (.slice e))
    (hi : (P.info? e).map (fun i => (i.zero, i.size, i.bytes)) = some (some z, size, bytes)) (hz : z.cells.size = size) (h0 : size = 1) (hown : OwnsAt w base size A n c xs) (hl : news.length = m * size) (hm : 0 < m) (hx : ∃ ad, B = some ad ∧ ∀ j u, news[j]? = some u → w.cell? (ad.add j) = some u) (h1 : ∀ u ∈ news, u.oneCell' = true)
    (hlen : n + m ≤ maxLen) (hby : (n + m) * bytes ≤ 140737488355328) (hbase : base ≤ w.heap.size) (ty : TypeId) :
    ∃ A2 c2 w', (Builtin.append_ #[t, t] ty #[.slice A n c, .slice B m cx]).run P w = .ok (.slice A2 (n + m) c2) w' ∧ OwnsAt w' base size A2 (n + m) c2 (xs ++ news) ∧ Turned (fun b => (Value.slice A n c).ownBlock = some b) w w' ∧ (∀ b, (Value.slice A2 (n + m) c2).ownBlock = some b → (Value.slice A n c).ownBlock = some b ∨ w.heap.size ≤ b) := by
  obtain ⟨i0, hi0, hz0, hz1, hz2⟩ := info_parts hi
  obtain ⟨ad, rfl, hc⟩ := hx
  have hcp := hown.cap
  rcases hown.lies with ⟨rfl, rfl⟩ | ⟨g, off, rfl, hg1, hg2, hg3, hg4⟩
  · have hn0 : n = 0 := by omega
    subst hn0
    have hxs : xs = [] := List.eq_nil_of_length_eq_zero (by rw [hown.length]; simp)
    subst hxs
    obtain ⟨v', w', hrun, h2, h3, _, h5⟩ := run_append_own_at (P := P) w base t ty e i0 z size bytes ht hi0 hz0 hz1 hz2 hz (by omega) _ 0 [] (World.ownsRow_nil w base e size) ad m cx news hl hc h1 (by omega) (by omega) hbase
    obtain ⟨A2, c2, rfl, ho⟩ := OwnsAt.of_own h2 (by omega)
    exact ⟨A2, c2, w', hrun, ho, Turned.of_grown h3 fun i e => e, fun b hb => by
      rcases h5 with e | e
      · rw [e] at hb; exact Or.inl hb
      · rw [e] at hb; injection hb with hb; exact Or.inr (by omega)⟩
  · by_cases hr : n + m ≤ c
    · have hlt : ∀ j, j < news.length → n * size + j < c * size := fun j hj => by rw [hl] at hj; subst h0; omega
      have hrun := run_append_room_cells (P := P) w t ty e i0 ht hi0 g off n c ad m cx news (by rw [hz1]; exact hl) hc h1 hr (fun j hj => by rw [hz1, Nat.add_assoc]; exact (hg4 _ (hlt j hj)).1) (fun j hj => by rw [hz1, Nat.add_assoc]; exact (hg4 _ (hlt j hj)).2)
      rw [hz1] at hrun
      have hT := setCells_turned g news (off + n * size) w
      refine ⟨_, c, _, hrun, ⟨by rw [List.length_append, hown.length, hl, Nat.add_mul], ⟨hr, hcp.2⟩, Or.inr ⟨g, off, rfl, hg1, Nat.lt_of_lt_of_le hg2 hT.size, fun j u hu => ?_, fun j hj => ?_⟩⟩, hT.mono fun i _ e => by subst e; rfl, fun b hb => Or.inl hb⟩
      · rcases Nat.lt_or_ge j xs.length with hj | hj
        · rw [List.getElem?_append_left hj] at hu
          rw [World.cell?_setCells_out g news (off + n * size) w ⟨g, off + j, none⟩ (fun _ _ => Or.inl (by have := hown.length; show off + j < off + n * size; omega))]
          exact hg3 j u hu
        · rw [List.getElem?_append_right hj] at hu
          have hj2 : j - xs.length < news.length := (List.getElem?_eq_some_iff.1 hu).1
          have e1 := World.cell?_setCells_in g news (off + n * size) w (fun k hk => by rw [Nat.add_assoc]; exact (hg4 _ (hlt k hk)).1) (j - xs.length) hj2
          have e2 : off + n * size + (j - xs.length) = off + j := by have := hown.length; omega
          rw [e2] at e1
          rw [e1]
          rw [List.getElem?_eq_getElem hj2] at hu
          exact hu
      · exact ⟨World.isSome_setCells g news _ w _ (hg4 j hj).1, by rw [World.frozen?_setCells]; exact (hg4 j hj).2⟩
    · obtain ⟨v', w', hrun, h2, h3⟩ := run_append_arg_grows (P := P) w t ty e i0 z size bytes ht hi0 hz0 hz1 hz2 hz (by omega) ⟨g, off, none⟩ n c xs hown.length (fun j u hj => by rw [Addr.add_lit]; exact hg3 j u hj) ad m cx news hl hc (by omega) (by omega) hby
      obtain ⟨A2, c2, rfl, ho⟩ := OwnsAt.of_own h2 (by omega)
      exact ⟨A2, c2, w', hrun, ho.lower hbase, Turned.of_grown h3 (fun i e => nomatch e), fun b hb => Or.inr (ho.block b hb).1⟩
theorem wp_append_at {w : World} {o : Oper} {a : Act} {K : Act → World → Prop} {Q : Exit → Act → World → Prop} (s x : Operand) (t : TypeId)
    (ho : o.op = .call { callee := .builtin .append, args := #[s, x], argTypes := #[t, t] }) {base n c m cx e size bytes : Nat} {z : Value} {A B : Option Addr} {xs news : List Value} (ht : P.underlying t = some (.slice e))
    (hi : (P.info? e).map (fun i => (i.zero, i.size, i.bytes)) = some (some z, size, bytes)) (hz : z.cells.size = size) (h0 : size = 1) (hs : a.eval s = .slice A n c) (hown : OwnsAt w base size A n c xs) (hx0 : a.eval x = .slice B m cx) (hl : news.length = m * size) (hm : 0 < m) (hx : ∃ ad, B = some ad ∧ ∀ j u, news[j]? = some u → w.cell? (ad.add j) = some u) (h1 : ∀ u ∈ news, u.oneCell' = true)
    (hlen : n + m ≤ maxLen) (hby : (n + m) * bytes ≤ 140737488355328) (hbase : base ≤ w.heap.size)
    (h : ∀ A2 c2 w', OwnsAt w' base size A2 (n + m) c2 (xs ++ news) → Turned (fun b => (Value.slice A n c).ownBlock = some b) w w' → (∀ b, (Value.slice A2 (n + m) c2).ownBlock = some b → (Value.slice A n c).ownBlock = some b ∨ w.heap.size ≤ b) → K (a.put o.dst (.slice A2 (n + m) c2)) w') : o.wp P a w K Q := by
  obtain ⟨A2, c2, w', hr, h2, h3, h4⟩ := run_append_at (P := P) (cx := cx) ht hi hz h0 hown hl hm hx h1 hlen hby hbase o.type
  unfold Oper.wp execOp
  simp only [ho, resolve, invoke, builtin, Sem.run_bind, Sem.run_pure, Result.andThen_ok, List.map_toArray, List.map_cons, List.map_nil, hs, hx0, hr]
  exact h A2 c2 w' h2 h3 h4
/-- One row, appended to rows that may begin anywhere. -/
theorem wpList_append_row_at {w : World} {ops : Array Oper} {rest : List Oper} {o : Oper} {a : Act} {Q : Exit → Act → World → Prop} (hgd : o.guard = none) (s x : Operand) (t : TypeId)
    (ho : o.op = .call { callee := .builtin .append, args := #[s, x], argTypes := #[t, t] }) {base n c cx e : Nat} {A : Option Addr} {rs : List RowV} {ad : Addr} (r : RowV) (ht : P.underlying t = some (.slice e))
    (hi : (P.info? e).map (fun i => (i.zero, i.size, i.bytes)) = some (some (.slice none 0 0), 1, 24)) (hs : a.eval s = .slice A n c) (hown : OwnsAt w base 1 A n c (rs.map RowV.val)) (hx0 : a.eval x = .slice (some ad) 1 cx) (hx : w.cell? ad = some r.val) (hlen : n ≤ 1000000) (hbase : base ≤ w.heap.size)
    (h : ∀ A2 c2 w', OwnsAt w' base 1 A2 (n + 1) c2 ((rs ++ [r]).map RowV.val) → Turned (fun b => (Value.slice A n c).ownBlock = some b) w w' → (∀ b, (Value.slice A2 (n + 1) c2).ownBlock = some b → (Value.slice A n c).ownBlock = some b ∨ w.heap.size ≤ b) → wpList P ops Q rest (a.put o.dst (.slice A2 (n + 1) c2)) w') : wpList P ops Q (o :: rest) a w :=
  wpList_plain hgd fun _ hK => wp_append_at s x t ho ht hi rfl rfl hs hown hx0 (news := [r.val]) rfl (by omega) ⟨ad, rfl, fun j u hu => by
      match j, hu with
      | 0, hu =>
        simp at hu
        subst hu
        have ha : ad.add 0 = ad := by unfold Addr.add; split <;> simp_all
        rw [ha]; exact hx⟩ (fun u hu => by simp at hu; subst hu; rfl) (by unfold maxLen; omega) (by omega) hbase fun A2 c2 w' h2 h3 h4 => hK _ _ (h A2 c2 w' (by rw [List.map_append]; exact h2) h3 h4)
end
/-- Rows that lie in blocks of F, held in a slice of one's own. -/
theorem RowsIn.of_at {w : World} {F : Nat → Prop} {base n c : Nat} {A : Option Addr} {rs : List RowV} (h : OwnsAt w base 1 A n c (rs.map RowV.val)) (hr : ∀ r ∈ rs, LiesIn w F r) (hF : ∀ b, (Value.slice A n c).ownBlock = some b → F b) : RowsIn w F A n rs := by
  have hl : rs.length = n := by have := h.length; simpa using this
  refine ⟨hl, hr, fun hp => ?_⟩
  rcases h.lies with ⟨rfl, hc⟩ | ⟨g, off, rfl, h1, h2, h3, h4⟩
  · have := h.cap; omega
  · exact ⟨g, off, rfl, hF g rfl, fun i r hi => h3 i r.val (by rw [List.getElem?_map, hi]; rfl)⟩
end Go.Proofs.Ythgplballiibnaa
