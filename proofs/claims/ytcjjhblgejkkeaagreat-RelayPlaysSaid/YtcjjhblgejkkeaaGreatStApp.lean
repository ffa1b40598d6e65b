/- Rows of structs: many appended; slices of them. -/
import Derived.Test.YtcjjhblgejkkeaaGreatSt
namespace Go.Proofs.YtcjjhblgejkkeaaGreat
open Go.RowKit
set_option linter.unusedVariables false
set_option maxRecDepth 100000 in
/-- append(rows, others...). -/
theorem run_append_sts {w : World} {base n c m cx t : Nat} {A B : Option Addr} {ps news : List PairV} (ht : Tryz.prog.underlying t = some (.slice 34)) (hown : OwnSt w base A n c ps) (hl : news.length = m)
    (hx : 0 < m → ∃ b off, B = some ⟨b, off, none⟩ ∧ ∀ i p, news[i]? = some p → w.cell? ⟨b, off + i * 2, none⟩ = some p.a.val ∧ w.cell? ⟨b, off + i * 2 + 1, none⟩ = some p.b.val)
    (hlen : n + m ≤ 1000000) (hbase : base ≤ w.heap.size) (ty : TypeId) :
    ∃ A2 c2 w', (Builtin.append_ #[t, t] ty #[.slice A n c, .slice B m cx]).run Tryz.prog w = .ok (.slice A2 (n + m) c2) w' ∧ OwnSt w' base A2 (n + m) c2 (ps ++ news) ∧ w.grownBy w' (Value.slice A n c).ownBlock ∧ ((Value.slice A2 (n + m) c2).ownBlock = (Value.slice A n c).ownBlock ∨ (Value.slice A2 (n + m) c2).ownBlock = some w.heap.size) := by
  obtain ⟨i0, hi0, hz0, hz1, hz2⟩ := info_parts infoSt
  by_cases hm : m = 0
  · subst hm
    have hy : news = [] := List.eq_nil_of_length_eq_zero hl
    subst hy
    cases B with
    | some ad =>
      obtain ⟨v', w', hrun, h2, h3, _, h5⟩ := run_append_own_at (P := Tryz.prog) w base t ty _ i0 (.agg #[.slice none 0 0, .slice none 0 0]) 2 48 ht hi0 hz0 hz1 hz2 rfl (by decide) _ n _ hown ad 0 cx [] rfl (fun j u hu => by simp at hu) (fun u hu => by simp at hu) (by unfold maxLen; omega) (by omega) hbase
      obtain ⟨A2, c2, rfl⟩ := own_shape h2
      exact ⟨A2, c2, w', hrun, by simpa [OwnSt] using h2, h3, h5⟩
    | none =>
      refine ⟨A, c, w, ?_, by simpa using hown, World.grownBy.refl w _, Or.inl rfl⟩
      rcases hown.2 with ⟨hv, rfl⟩ | ⟨g, cap, cur, hv, _, _, hnc, _⟩
      · simp [Builtin.append_, run_underlying ht, sizeOf, typeInfo, hi0, Builtin.lenOf, Builtin.firstCells, hv]
      · injection hv with e1 _ e3
        subst e1; subst e3
        simp [Builtin.append_, run_underlying ht, sizeOf, typeInfo, hi0, Builtin.lenOf, Builtin.firstCells, hnc, storeCells]
  · obtain ⟨b, off, rfl, hc⟩ := hx (by omega)
    have hcl : (news.flatMap PairV.vals).length = m * 2 := by rw [vals_len, hl]
    have ha : ∀ j, (⟨b, off, none⟩ : Addr).add j = ⟨b, off + j, none⟩ := fun j => by unfold Addr.add; split <;> simp_all
    obtain ⟨v', w', hrun, h2, h3, _, h5⟩ := run_append_own_at (P := Tryz.prog) w base t ty _ i0 (.agg #[.slice none 0 0, .slice none 0 0]) 2 48 ht hi0 hz0 hz1 hz2 rfl (by decide) _ n _ hown ⟨b, off, none⟩ m cx (news.flatMap PairV.vals) hcl
      (fun j u hu => by
        have hj : j < m * 2 := by rw [← hcl]; exact (List.getElem?_eq_some_iff.1 hu).1
        have hp := List.getElem?_eq_getElem (l := news) (i := j / 2) (by omega)
        obtain ⟨v1, v2⟩ := vals_at news (j / 2) _ hp
        obtain ⟨s1, s2⟩ := hc (j / 2) _ hp
        rw [ha]
        rcases Nat.mod_two_eq_zero_or_one j with e | e
        · have e2 : j / 2 * 2 = j := by omega
          rw [e2] at v1 s1
          rw [v1] at hu
          rw [s1]; exact hu
        · have e2 : j / 2 * 2 + 1 = j := by omega
          rw [Nat.add_assoc] at s2
          rw [e2] at v2 s2
          rw [v2] at hu
          rw [s2]; exact hu)
      (fun u hu => by
        obtain ⟨p, _, hp⟩ := List.mem_flatMap.1 hu
        simp [PairV.vals] at hp
        rcases hp with rfl | rfl <;> rfl) (by unfold maxLen; omega) (by omega) hbase
    have e : ps.flatMap PairV.vals ++ news.flatMap PairV.vals = (ps ++ news).flatMap PairV.vals := by rw [List.flatMap_append]
    rw [e] at h2
    obtain ⟨A2, c2, rfl⟩ := own_shape h2
    exact ⟨A2, c2, w', hrun, h2, h3, h5⟩
theorem wp_append_sts {w : World} {o : Oper} {a : Act} {K : Act → World → Prop} {Q : Exit → Act → World → Prop} (s x : Operand) (t : TypeId)
    (ho : o.op = .call { callee := .builtin .append, args := #[s, x], argTypes := #[t, t] }) {base n c m cx nm : Nat} {A B : Option Addr} {ps news : List PairV} (hnm : n + m = nm) (ht : Tryz.prog.underlying t = some (.slice 34))
    (hs : a.eval s = .slice A n c) (hown : OwnSt w base A n c ps) (hx0 : a.eval x = .slice B m cx) (hl : news.length = m) (hx : 0 < m → ∃ b off, B = some ⟨b, off, none⟩ ∧ ∀ i p, news[i]? = some p → w.cell? ⟨b, off + i * 2, none⟩ = some p.a.val ∧ w.cell? ⟨b, off + i * 2 + 1, none⟩ = some p.b.val) (hlen : n + m ≤ 1000000) (hbase : base ≤ w.heap.size)
    (h : ∀ A2 c2 w', OwnSt w' base A2 nm c2 (ps ++ news) → w.grownBy w' (Value.slice A n c).ownBlock → ((Value.slice A2 nm c2).ownBlock = (Value.slice A n c).ownBlock ∨ (Value.slice A2 nm c2).ownBlock = some w.heap.size) → K (a.put o.dst (.slice A2 nm c2)) w') : o.wp Tryz.prog a w K Q := by
  subst hnm
  obtain ⟨A2, c2, w', hr, h2, h3, h4⟩ := run_append_sts (cx := cx) ht hown hl hx hlen hbase o.type
  unfold Oper.wp execOp
  simp only [ho, resolve, invoke, builtin, Sem.run_bind, Sem.run_pure, Result.andThen_ok, List.map_toArray, List.map_cons, List.map_nil, hs, hx0, hr]
  exact h A2 c2 w' h2 h3 h4
theorem wpList_append_sts {w : World} {ops : Array Oper} {rest : List Oper} {o : Oper} {a : Act} {Q : Exit → Act → World → Prop} (hgd : o.guard = none) (s x : Operand) (t : TypeId)
    (ho : o.op = .call { callee := .builtin .append, args := #[s, x], argTypes := #[t, t] }) {base n c m cx nm : Nat} {A B : Option Addr} {ps news : List PairV} (hnm : n + m = nm) (ht : Tryz.prog.underlying t = some (.slice 34))
    (hs : a.eval s = .slice A n c) (hown : OwnSt w base A n c ps) (hx0 : a.eval x = .slice B m cx) (hl : news.length = m) (hx : 0 < m → ∃ b off, B = some ⟨b, off, none⟩ ∧ ∀ i p, news[i]? = some p → w.cell? ⟨b, off + i * 2, none⟩ = some p.a.val ∧ w.cell? ⟨b, off + i * 2 + 1, none⟩ = some p.b.val) (hlen : n + m ≤ 1000000) (hbase : base ≤ w.heap.size)
    (h : ∀ A2 c2 w', OwnSt w' base A2 nm c2 (ps ++ news) → w.grownBy w' (Value.slice A n c).ownBlock → ((Value.slice A2 nm c2).ownBlock = (Value.slice A n c).ownBlock ∨ (Value.slice A2 nm c2).ownBlock = some w.heap.size) → wpList Tryz.prog ops Q rest (a.put o.dst (.slice A2 nm c2)) w') : wpList Tryz.prog ops Q (o :: rest) a w :=
  wpList_plain hgd fun _ hK => wp_append_sts s x t ho hnm ht hs hown hx0 hl hx hlen hbase fun A2 c2 w' h2 h3 h4 => hK _ _ (h A2 c2 w' h2 h3 h4)
/-- The address of a slice of rows cut at its head. -/
def dropS (A : Option Addr) (c s : Nat) : Option Addr := if c = s then A else A.map (·.add (s * 2))
theorem dropS_some (b off c s : Nat) (h : s < c) : dropS (some ⟨b, off, none⟩) c s = some ⟨b, off + s * 2, none⟩ := by
  rw [dropS, if_neg (by omega)]
  simp only [Option.map_some, Addr.add]
  split <;> simp_all
theorem run_drop_st {t : TypeId} (ht : Tryz.prog.underlying t = some (.slice (Tryz.prog.elem t))) (he : Tryz.prog.elem t = 34) (n c s : Nat) (A : Option Addr) (hs : s ≤ n) (w : World) :
    (Instr.slice t (.slice A n c) (some (.int .i64 (s : Int))) none none).run Tryz.prog w = .ok (.slice (dropS A c s) (n - s) (c - s)) w := by
  obtain ⟨i0, hi0, hz0, hz1, hz2⟩ := info_parts infoSt
  rw [run_slice_l (P := Tryz.prog) (w := w) t A n c ht .i64 s (by omega) (by omega)]
  simp [sizeOf, typeInfo, he, hi0, hz1, sliced, dropS]
end Go.Proofs.YtcjjhblgejkkeaaGreat
