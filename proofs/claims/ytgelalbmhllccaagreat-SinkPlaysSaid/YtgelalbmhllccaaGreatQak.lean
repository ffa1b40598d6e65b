/- Lists of generations, each with where its basis lies. -/
import Derived.Test.YtgelalbmhllccaaGreatQaj
import Derived.Test.YtgelalbmhllccaaGreatQab
import Derived.Test.YtgelalbmhllccaaGreatQaf
import Derived.RowKit3
namespace Go.Proofs.YtgelalbmhllccaaGreat
open Go.RowKit Lin
set_option linter.unusedVariables false
set_option linter.unusedSimpArgs false
/-- A generation, and where its basis lies. -/
def gnVals (x : Nat × Nat) : List Value := [.int .u64 (x.1 : Int), .pointer (some ⟨x.2, 0, none⟩)]
theorem gn_len (l : List (Nat × Nat)) : (l.flatMap gnVals).length = l.length * 2 := by
  induction l with
  | nil => rfl
  | cons p l ih => rw [List.flatMap_cons, List.length_append, ih, List.length_cons]; simp [gnVals]; omega
theorem gn_at : ∀ (l : List (Nat × Nat)) (i : Nat) (x : Nat × Nat), l[i]? = some x → (l.flatMap gnVals)[i * 2]? = some (.int .u64 (x.1 : Int)) ∧ (l.flatMap gnVals)[i * 2 + 1]? = some (.pointer (some ⟨x.2, 0, none⟩))
  | [], i, p, h => by simp at h
  | q :: l, 0, p, h => by
    simp at h
    subst h
    exact ⟨rfl, rfl⟩
  | q :: l, i + 1, p, h => by
    have ih := gn_at l i p (by simpa using h)
    have e : ((q :: l).flatMap gnVals) = Value.int .u64 (q.1 : Int) :: Value.pointer (some ⟨q.2, 0, none⟩) :: l.flatMap gnVals := rfl
    rw [e, show (i + 1) * 2 = i * 2 + 1 + 1 by omega]
    simpa using ih
/-- Such a list, to be read. -/
def GnIn (w : World) (F : Nat → Prop) (A : Option Addr) (n : Nat) (l : List (Nat × Nat)) : Prop :=
  l.length = n ∧ (0 < n → ∃ b off, A = some ⟨b, off, none⟩ ∧ F b ∧ b < w.heap.size ∧ ∀ (i : Nat) (x : Nat × Nat), l[i]? = some x → w.cell? ⟨b, off + i * 2, none⟩ = some (.int .u64 (x.1 : Int)) ∧ w.cell? ⟨b, off + i * 2 + 1, none⟩ = some (.pointer (some ⟨x.2, 0, none⟩)))
theorem GnIn.turned {w w' : World} {F G : Nat → Prop} {A : Option Addr} {n : Nat} {l : List (Nat × Nat)} (h : GnIn w F A n l) (k : Turned G w w') (hd : ∀ b, F b → ¬ G b) : GnIn w' F A n l := ⟨h.1, fun hn => by
  obtain ⟨b, off, e, hb, hl, hc⟩ := h.2 hn
  exact ⟨b, off, e, hb, Nat.lt_of_lt_of_le hl k.size, fun i x hi => ⟨k.cell (hc i x hi).1 (hd b hb), k.cell (hc i x hi).2 (hd b hb)⟩⟩⟩
theorem GnIn.keep {w w' : World} {F : Nat → Prop} {A : Option Addr} {n : Nat} {l : List (Nat × Nat)} (h : GnIn w F A n l) (k : Keep w w') : GnIn w' F A n l := h.turned (Turned.of_keep (F := fun _ => False) k) fun _ _ e => e
theorem GnIn.nil (w : World) (F : Nat → Prop) (A : Option Addr) : GnIn w F A 0 [] := ⟨rfl, fun h => absurd h (by omega)⟩
theorem GnIn.at_ {w : World} {F : Nat → Prop} {A : Option Addr} {n : Nat} {l : List (Nat × Nat)} (h : GnIn w F A n l) {i : Nat} (hi : i < n) : ∃ b off x, A = some ⟨b, off, none⟩ ∧ F b ∧ b < w.heap.size ∧ l[i]? = some x ∧ w.cell? ⟨b, off + i * 2, none⟩ = some (.int .u64 (x.1 : Int)) ∧ w.cell? ⟨b, off + i * 2 + 1, none⟩ = some (.pointer (some ⟨x.2, 0, none⟩)) := by
  obtain ⟨b, off, e, hb, hl, hc⟩ := h.2 (by omega)
  have hi' : i < l.length := by rw [h.1]; exact hi
  exact ⟨b, off, l[i], e, hb, hl, List.getElem?_eq_getElem hi', (hc i _ (List.getElem?_eq_getElem hi')).1, (hc i _ (List.getElem?_eq_getElem hi')).2⟩
/-- Such a list of one's own. -/
def OwnGn (w : World) (base : Nat) (A : Option Addr) (n c : Nat) (l : List (Nat × Nat)) : Prop := w.ownsRow base 120 2 (.slice A n c) n (l.flatMap gnVals)
namespace OwnGn
variable {w w' : World} {base n c : Nat} {A : Option Addr} {l : List (Nat × Nat)}
theorem length (h : OwnGn w base A n c l) : l.length = n := by have := h.1; rw [gn_len] at this; omega
theorem none_ (w : World) (base : Nat) : OwnGn w base none 0 0 [] := World.ownsRow_nil w base _ 2
theorem rowLe (h : OwnGn w base A n c l) : ∀ k, (Value.slice A n c).ownBlock = some k → base ≤ k := fun k hk => (World.ownsRow.lt h k hk).1
theorem keep (h : OwnGn w base A n c l) (k : Keep w w') : OwnGn w' base A n c l :=
  h.kept (row := none) ⟨k.os, k.tape, k.output, k.size, fun i hi _ => k.block i hi⟩ (by
    cases hb : (Value.slice A n c).ownBlock with
    | none => exact Or.inl rfl
    | some g => exact Or.inr (by simp))
theorem alloc (h : OwnGn w base A n c l) (o : Obj) : OwnGn (w.alloc o) base A n c l := World.ownsRow.alloc h o
theorem lower {base' : Nat} (h : OwnGn w base A n c l) (hb : base' ≤ base) : OwnGn w base' A n c l := by
  refine ⟨h.1, ?_⟩
  rcases h.2 with h1 | ⟨g, cap, cur, hv, hg, r⟩
  · exact Or.inl h1
  · exact Or.inr ⟨g, cap, cur, hv, Nat.le_trans hb hg, r⟩
theorem ins (h : OwnGn w base A n c l) : GnIn w (fun b => base ≤ b) A n l := by
  refine ⟨h.length, fun hn => ?_⟩
  rcases h.2 with ⟨hv, h0⟩ | ⟨g, cap, cur, hv, hg, hh, _⟩
  · omega
  · injection hv with h1 h2 h3
    subst h1
    refine ⟨g, 0, rfl, hg, (Array.getElem?_eq_some_iff.1 hh).1, fun i x hi => ?_⟩
    obtain ⟨v1, v2⟩ := gn_at l i x hi
    have c1 := World.ownsRow.cells h (g := g) rfl _ _ v1
    have c2 := World.ownsRow.cells h (g := g) rfl _ _ v2
    have ha : ∀ j, (⟨g, 0, none⟩ : Addr).add j = ⟨g, 0 + j, none⟩ := fun j => by unfold Addr.add; split <;> simp_all
    rw [ha] at c1 c2
    exact ⟨c1, c2⟩
end OwnGn
theorem infoGn : (Tryz.prog.info? 120).map (fun i => (i.zero, i.size, i.bytes)) = some (some (.agg #[.int .u64 0, .pointer none]), 2, 16) := by kernel_rfl
set_option maxRecDepth 100000 in
/-- append(rows, others...). -/
theorem run_append_gns {w : World} {base n c m cx t : Nat} {A B : Option Addr} {ps news : List (Nat × Nat)} (ht : Tryz.prog.underlying t = some (.slice 120)) (hown : OwnGn w base A n c ps) (hl : news.length = m)
    (hx : 0 < m → ∃ b off, B = some ⟨b, off, none⟩ ∧ ∀ i p, news[i]? = some p → w.cell? ⟨b, off + i * 2, none⟩ = some (.int .u64 (p.1 : Int)) ∧ w.cell? ⟨b, off + i * 2 + 1, none⟩ = some (.pointer (some ⟨p.2, 0, none⟩)))
    (hlen : n + m ≤ 1000000) (hbase : base ≤ w.heap.size) (ty : TypeId) :
    ∃ A2 c2 w', (Builtin.append_ #[t, t] ty #[.slice A n c, .slice B m cx]).run Tryz.prog w = .ok (.slice A2 (n + m) c2) w' ∧ OwnGn w' base A2 (n + m) c2 (ps ++ news) ∧ w.grownBy w' (Value.slice A n c).ownBlock ∧ ((Value.slice A2 (n + m) c2).ownBlock = (Value.slice A n c).ownBlock ∨ (Value.slice A2 (n + m) c2).ownBlock = some w.heap.size) := by
  obtain ⟨i0, hi0, hz0, hz1, hz2⟩ := info_parts infoGn
  by_cases hm : m = 0
  · subst hm
    have hy : news = [] := List.eq_nil_of_length_eq_zero hl
    subst hy
    cases B with
    | some ad =>
      obtain ⟨v', w', hrun, h2, h3, _, h5⟩ := run_append_own_at (P := Tryz.prog) w base t ty _ i0 (.agg #[.int .u64 0, .pointer none]) 2 16 ht hi0 hz0 hz1 hz2 rfl (by decide) _ n _ hown ad 0 cx [] rfl (fun j u hu => by simp at hu) (fun u hu => by simp at hu) (by unfold maxLen; omega) (by omega) hbase
      obtain ⟨A2, c2, rfl⟩ := own_shape h2
      exact ⟨A2, c2, w', hrun, by simpa [OwnGn] using h2, h3, h5⟩
    | none =>
      refine ⟨A, c, w, ?_, by simpa using hown, World.grownBy.refl w _, Or.inl rfl⟩
      rcases hown.2 with ⟨hv, rfl⟩ | ⟨g, cap, cur, hv, _, _, hnc, _⟩
      · simp [Builtin.append_, run_underlying ht, sizeOf, typeInfo, hi0, Builtin.lenOf, Builtin.firstCells, hv]
      · injection hv with e1 _ e3
        subst e1; subst e3
        simp [Builtin.append_, run_underlying ht, sizeOf, typeInfo, hi0, Builtin.lenOf, Builtin.firstCells, hnc, storeCells]
  · obtain ⟨b, off, rfl, hc⟩ := hx (by omega)
    have hcl : (news.flatMap gnVals).length = m * 2 := by rw [gn_len, hl]
    have ha : ∀ j, (⟨b, off, none⟩ : Addr).add j = ⟨b, off + j, none⟩ := fun j => by unfold Addr.add; split <;> simp_all
    obtain ⟨v', w', hrun, h2, h3, _, h5⟩ := run_append_own_at (P := Tryz.prog) w base t ty _ i0 (.agg #[.int .u64 0, .pointer none]) 2 16 ht hi0 hz0 hz1 hz2 rfl (by decide) _ n _ hown ⟨b, off, none⟩ m cx (news.flatMap gnVals) hcl
      (fun j u hu => by
        have hj : j < m * 2 := by rw [← hcl]; exact (List.getElem?_eq_some_iff.1 hu).1
        have hp := List.getElem?_eq_getElem (l := news) (i := j / 2) (by omega)
        obtain ⟨v1, v2⟩ := gn_at news (j / 2) _ hp
        obtain ⟨s1, s2⟩ := hc (j / 2) _ hp
        rw [ha]
        rcases Nat.mod_two_eq_zero_or_one j with e | e
        · have e2 : j / 2 * 2 = j := by omega
          rw [e2] at v1 s1
          rw [v1] at hu
          rw [s1]; exact hu
        · have e2 : j / 2 * 2 + 1 = j := by omega
          rw [Nat.add_assoc] at s2
          rw [e2] at v2 s2
          rw [v2] at hu
          rw [s2]; exact hu)
      (fun u hu => by
        obtain ⟨p, _, hp⟩ := List.mem_flatMap.1 hu
        simp [gnVals] at hp
        rcases hp with rfl | rfl <;> rfl) (by unfold maxLen; omega) (by omega) hbase
    have e : ps.flatMap gnVals ++ news.flatMap gnVals = (ps ++ news).flatMap gnVals := by rw [List.flatMap_append]
    rw [e] at h2
    obtain ⟨A2, c2, rfl⟩ := own_shape h2
    exact ⟨A2, c2, w', hrun, h2, h3, h5⟩
theorem wp_append_gns {w : World} {o : Oper} {a : Act} {K : Act → World → Prop} {Q : Exit → Act → World → Prop} (s x : Operand) (t : TypeId)
    (ho : o.op = .call { callee := .builtin .append, args := #[s, x], argTypes := #[t, t] }) {base n c m cx nm : Nat} {A B : Option Addr} {ps news : List (Nat × Nat)} (hnm : n + m = nm) (ht : Tryz.prog.underlying t = some (.slice 120))
    (hs : a.eval s = .slice A n c) (hown : OwnGn w base A n c ps) (hx0 : a.eval x = .slice B m cx) (hl : news.length = m) (hx : 0 < m → ∃ b off, B = some ⟨b, off, none⟩ ∧ ∀ i p, news[i]? = some p → w.cell? ⟨b, off + i * 2, none⟩ = some (.int .u64 (p.1 : Int)) ∧ w.cell? ⟨b, off + i * 2 + 1, none⟩ = some (.pointer (some ⟨p.2, 0, none⟩))) (hlen : n + m ≤ 1000000) (hbase : base ≤ w.heap.size)
    (h : ∀ A2 c2 w', OwnGn w' base A2 nm c2 (ps ++ news) → w.grownBy w' (Value.slice A n c).ownBlock → ((Value.slice A2 nm c2).ownBlock = (Value.slice A n c).ownBlock ∨ (Value.slice A2 nm c2).ownBlock = some w.heap.size) → K (a.put o.dst (.slice A2 nm c2)) w') : o.wp Tryz.prog a w K Q := by
  subst hnm
  obtain ⟨A2, c2, w', hr, h2, h3, h4⟩ := run_append_gns (cx := cx) ht hown hl hx hlen hbase o.type
  unfold Oper.wp execOp
  simp only [ho, resolve, invoke, builtin, Sem.run_bind, Sem.run_pure, Result.andThen_ok, List.map_toArray, List.map_cons, List.map_nil, hs, hx0, hr]
  exact h A2 c2 w' h2 h3 h4
theorem wpList_append_gns {w : World} {ops : Array Oper} {rest : List Oper} {o : Oper} {a : Act} {Q : Exit → Act → World → Prop} (hgd : o.guard = none) (s x : Operand) (t : TypeId)
    (ho : o.op = .call { callee := .builtin .append, args := #[s, x], argTypes := #[t, t] }) {base n c m cx nm : Nat} {A B : Option Addr} {ps news : List (Nat × Nat)} (hnm : n + m = nm) (ht : Tryz.prog.underlying t = some (.slice 120))
    (hs : a.eval s = .slice A n c) (hown : OwnGn w base A n c ps) (hx0 : a.eval x = .slice B m cx) (hl : news.length = m) (hx : 0 < m → ∃ b off, B = some ⟨b, off, none⟩ ∧ ∀ i p, news[i]? = some p → w.cell? ⟨b, off + i * 2, none⟩ = some (.int .u64 (p.1 : Int)) ∧ w.cell? ⟨b, off + i * 2 + 1, none⟩ = some (.pointer (some ⟨p.2, 0, none⟩))) (hlen : n + m ≤ 1000000) (hbase : base ≤ w.heap.size)
    (h : ∀ A2 c2 w', OwnGn w' base A2 nm c2 (ps ++ news) → w.grownBy w' (Value.slice A n c).ownBlock → ((Value.slice A2 nm c2).ownBlock = (Value.slice A n c).ownBlock ∨ (Value.slice A2 nm c2).ownBlock = some w.heap.size) → wpList Tryz.prog ops Q rest (a.put o.dst (.slice A2 nm c2)) w') : wpList Tryz.prog ops Q (o :: rest) a w :=
  wpList_plain hgd fun _ hK => wp_append_gns s x t ho hnm ht hs hown hx0 hl hx hlen hbase fun A2 c2 w' h2 h3 h4 => hK _ _ (h A2 c2 w' h2 h3 h4)
/-- The address of a slice of rows cut at its head. -/
def dropG (A : Option Addr) (c s : Nat) : Option Addr := if c = s then A else A.map (·.add (s * 2))
theorem dropG_some (b off c s : Nat) (h : s < c) : dropG (some ⟨b, off, none⟩) c s = some ⟨b, off + s * 2, none⟩ := by
  rw [dropG, if_neg (by omega)]
  simp only [Option.map_some, Addr.add]
  split <;> simp_all
theorem run_drop_gn {t : TypeId} (ht : Tryz.prog.underlying t = some (.slice (Tryz.prog.elem t))) (he : Tryz.prog.elem t = 120) (n c s : Nat) (A : Option Addr) (hs : s ≤ n) (w : World) :
    (Instr.slice t (.slice A n c) (some (.int .i64 (s : Int))) none none).run Tryz.prog w = .ok (.slice (dropG A c s) (n - s) (c - s)) w := by
  obtain ⟨i0, hi0, hz0, hz1, hz2⟩ := info_parts infoGn
  rw [run_slice_l (P := Tryz.prog) (w := w) t A n c ht .i64 s (by omega) (by omega)]
  simp [sizeOf, typeInfo, he, hi0, hz1, sliced, dropG]

/-- The first k of such a list, and the rest. -/
theorem GnIn.take {w : World} {F : Nat → Prop} {A : Option Addr} {n k : Nat} {l : List (Nat × Nat)} (h : GnIn w F A n l) (hk : k ≤ n) : GnIn w F A k (l.take k) := ⟨by rw [List.length_take, h.1]; omega, fun hp => by
  obtain ⟨b, off, e, hb, hl, hc⟩ := h.2 (by omega)
  refine ⟨b, off, e, hb, hl, fun i x hi => hc i x ?_⟩
  rw [List.getElem?_take] at hi
  split at hi
  · exact hi
  · cases hi⟩
theorem GnIn.drop {w : World} {F : Nat → Prop} {A : Option Addr} {n c k : Nat} {l : List (Nat × Nat)} (h : GnIn w F A n l) (hc : n ≤ c) : GnIn w F (dropG A c k) (n - k) (l.drop k) := ⟨by rw [List.length_drop, h.1], fun hp => by
  obtain ⟨b, off, rfl, hb, hl, hcl⟩ := h.2 (by omega)
  refine ⟨b, off + k * 2, dropG_some b off c k (by omega), hb, hl, fun i x hi => ?_⟩
  rw [List.getElem?_drop] at hi
  have h1 := hcl (k + i) x hi
  rw [show off + (k + i) * 2 = off + k * 2 + i * 2 by omega] at h1
  exact h1⟩
theorem GnIn.cells {w : World} {F : Nat → Prop} {A : Option Addr} {n : Nat} {l : List (Nat × Nat)} (h : GnIn w F A n l) : 0 < n → ∃ b off, A = some ⟨b, off, none⟩ ∧ ∀ (i : Nat) (p : Nat × Nat), l[i]? = some p → w.cell? ⟨b, off + i * 2, none⟩ = some (.int .u64 (p.1 : Int)) ∧ w.cell? ⟨b, off + i * 2 + 1, none⟩ = some (.pointer (some ⟨p.2, 0, none⟩)) := fun hp => by
  obtain ⟨b, off, e, hb, hl, hc⟩ := h.2 hp
  exact ⟨b, off, e, hc⟩
theorem OwnGn.cap {w : World} {base n c : Nat} {A : Option Addr} {l : List (Nat × Nat)} (h : OwnGn w base A n c l) : n ≤ c := by
  rcases h.2 with ⟨hv, h0⟩ | ⟨g, cap, cur, hv, hg, hh, hnc, _⟩
  · omega
  · injection hv with h1 h2 h3
    omega
theorem OwnGn.turned {F : Nat → Prop} {w w' : World} {base n c : Nat} {A : Option Addr} {l : List (Nat × Nat)} (h : OwnGn w base A n c l) (k : Turned F w w') (hn : ∀ b, (Value.slice A n c).ownBlock = some b → ¬ F b) : OwnGn w' base A n c l := k.owns h hn
/-- What is read lies in one's own block. -/
theorem OwnGn.insO {w : World} {base n c : Nat} {A : Option Addr} {l : List (Nat × Nat)} (h : OwnGn w base A n c l) : GnIn w (fun b => (Value.slice A n c).ownBlock = some b) A n l := by
  obtain ⟨h1, h2⟩ := h.ins
  refine ⟨h1, fun hn => ?_⟩
  obtain ⟨b, off, e, hb, hl, hc⟩ := h2 hn
  subst e
  exact ⟨b, off, rfl, rfl, hl, hc⟩
end Go.Proofs.YtgelalbmhllccaaGreat
/- The document's own basis: places, each with its row or none (plain). -/
namespace Go.Proofs.YtgelalbmhllccaaGreat
open Lin
set_option linter.unusedVariables false
/-- The rows that are there. -/
def selP : List Bool → List PairV → List PairV
  | [], _ => []
  | _, [] => []
  | b :: bs, p :: ps => if b then p :: selP bs ps else selP bs ps
theorem selP_append : ∀ (a : List Bool) (c : List PairV) (b : List Bool) (d : List PairV), a.length = c.length → selP (a ++ b) (c ++ d) = selP a c ++ selP b d
  | [], [], b, d, _ => rfl
  | [], _ :: _, b, d, h => by simp at h
  | _ :: _, [], b, d, h => by simp at h
  | x :: a, p :: c, b, d, h => by
    have ih := selP_append a c b d (by simpa using h)
    show (if x then p :: selP (a ++ b) (c ++ d) else selP (a ++ b) (c ++ d)) = (if x then p :: selP a c else selP a c) ++ selP b d
    rw [ih]
    cases x <;> rfl
theorem selP_succ {iv : List Bool} {R : List PairV} {i : Nat} {x : Bool} {p : PairV} (hx : iv[i]? = some x) (hp : R[i]? = some p) : selP (iv.take (i + 1)) (R.take (i + 1)) = selP (iv.take i) (R.take i) ++ (if x then [p] else []) := by
  have h1 := (List.getElem?_eq_some_iff.1 hx).1
  have h2 := (List.getElem?_eq_some_iff.1 hp).1
  rw [List.take_add_one, List.take_add_one, hx, hp, selP_append _ _ _ _ (by rw [List.length_take, List.length_take]; omega)]
  congr 1
theorem selP_split {iv : List Bool} {R : List PairV} (h : iv.length = R.length) (m : Nat) : selP iv R = selP (iv.take m) (R.take m) ++ selP (iv.drop m) (R.drop m) := by
  rw [← selP_append _ _ _ _ (by rw [List.length_take, List.length_take, h]), List.take_append_drop, List.take_append_drop]
theorem selP_mem : ∀ (iv : List Bool) (R : List PairV) (k : Nat) (p : PairV), (selP iv R)[k]? = some p → ∃ i : Nat, iv[i]? = some true ∧ R[i]? = some p
  | [], _, k, p, h => by simp [selP] at h
  | _ :: _, [], k, p, h => by simp [selP] at h
  | true :: iv, q :: R, 0, p, h => ⟨0, rfl, h⟩
  | true :: iv, q :: R, k + 1, p, h => by
    obtain ⟨i, h1, h2⟩ := selP_mem iv R k p h
    exact ⟨i + 1, h1, h2⟩
  | false :: iv, q :: R, k, p, h => by
    obtain ⟨i, h1, h2⟩ := selP_mem iv R k p h
    exact ⟨i + 1, h1, h2⟩
theorem selP_low {iv : List Bool} {R : List PairV} {m k : Nat} {p : PairV} (hk : k < (selP (iv.take m) (R.take m)).length) (hl : iv.length = R.length) (h : (selP iv R)[k]? = some p) : ∃ i : Nat, i < m ∧ iv[i]? = some true ∧ R[i]? = some p := by
  rw [selP_split hl m, List.getElem?_append_left hk] at h
  obtain ⟨i, h1, h2⟩ := selP_mem _ _ _ _ h
  rw [List.getElem?_take] at h1 h2
  split at h1
  · next hi => rw [if_pos hi] at h2; exact ⟨i, hi, h1, h2⟩
  · cases h1
theorem selP_high {iv : List Bool} {R : List PairV} {m k : Nat} {p : PairV} (hk : (selP (iv.take m) (R.take m)).length ≤ k) (hl : iv.length = R.length) (h : (selP iv R)[k]? = some p) : ∃ i : Nat, m ≤ i ∧ iv[i]? = some true ∧ R[i]? = some p := by
  rw [selP_split hl m, List.getElem?_append_right hk] at h
  obtain ⟨i, h1, h2⟩ := selP_mem _ _ _ _ h
  rw [List.getElem?_drop] at h1 h2
  exact ⟨m + i, by omega, h1, h2⟩
theorem selP_at {iv : List Bool} {R : List PairV} {i : Nat} {p : PairV} (hl : iv.length = R.length) (hx : iv[i]? = some true) (hp : R[i]? = some p) : (selP iv R)[(selP (iv.take i) (R.take i)).length]? = some p := by
  rw [selP_split hl (i + 1), selP_succ hx hp, if_pos rfl, List.append_assoc, List.getElem?_append_right (Nat.le_refl _), Nat.sub_self]; rfl
theorem selP_map {f : List Nat → List Nat} : ∀ (iv : List Bool) (R R' : List PairV), R'.length = R.length → (∀ (i : Nat) (p p' : PairV), iv[i]? = some true → R[i]? = some p → R'[i]? = some p' → p'.xs = f p.xs) → (selP iv R').map PairV.xs = ((selP iv R).map PairV.xs).map f
  | [], _, _, _, _ => by simp [selP]
  | _ :: _, [], R', h, _ => by
    obtain rfl : R' = [] := List.eq_nil_of_length_eq_zero (by simpa using h)
    simp [selP]
  | _ :: _, _ :: _, [], h, _ => by simp at h
  | x :: iv, p :: R, p' :: R', h, hf => by
    have ih := selP_map (f := f) iv R R' (by simpa using h) fun i q q' h1 h2 h3 => hf (i + 1) q q' h1 h2 h3
    cases x with
    | true =>
      show (p' :: selP iv R').map PairV.xs = ((p :: selP iv R).map PairV.xs).map f
      rw [List.map_cons, List.map_cons, List.map_cons, ih, hf 0 p p' rfl rfl rfl]
    | false => exact ih
theorem selP_set {iv : List Bool} {R : List PairV} {L : Nat} {r : PairV} (hl : iv.length = R.length) (hL : iv[L]? = some false) : selP (iv.set L true) (R.set L r) = (selP iv R).take (selP (iv.take L) (R.take L)).length ++ [r] ++ (selP iv R).drop (selP (iv.take L) (R.take L)).length := by
  have h1 := (List.getElem?_eq_some_iff.1 hL).1
  have hp := List.getElem?_eq_getElem (l := R) (i := L) (by omega)
  have e1 := selP_split hl (L + 1)
  rw [selP_succ hL hp, if_neg (by decide), List.append_nil] at e1
  have hl2 : (iv.set L true).length = (R.set L r).length := by rw [List.length_set, List.length_set, hl]
  have e2 := selP_split hl2 (L + 1)
  rw [selP_succ (i := L) (x := true) (p := r) (by rw [List.getElem?_set_self h1]) (by rw [List.getElem?_set_self (by omega)]), if_pos rfl] at e2
  rw [e2, e1, List.take_left', List.drop_left', List.take_set_of_le (Nat.le_refl L), List.take_set_of_le (Nat.le_refl L), List.drop_set_of_lt (Nat.lt_succ_self L), List.drop_set_of_lt (Nat.lt_succ_self L)]
  · rfl
  · rfl
/-- Places, and the basis that they are. -/
structure Slots (g s : Nat) (iv : List Bool) (R : List PairV) (B : List (List Nat)) : Prop where
  li : iv.length = g
  lr : R.length = g
  sel : (selP iv R).map PairV.xs = B
  lead : ∀ (i : Nat) (p : PairV), iv[i]? = some true → R[i]? = some p → vLead (g + s) p.xs = (i : Int)
  size : ∀ (i : Nat) (p : PairV), iv[i]? = some true → R[i]? = some p → p.a.xs.length = g ∧ p.b.xs.length = s
/-- How many rows stand ahead of a place. -/
def cnt (iv : List Bool) (R : List PairV) (i : Nat) : Nat := (selP (iv.take i) (R.take i)).length
section
variable {g s : Nat} {iv : List Bool} {R : List PairV} {B : List (List Nat)}
theorem Slots.eq (h : Slots g s iv R B) : iv.length = R.length := h.li.trans h.lr.symm
theorem Slots.none (g s : Nat) (p : PairV) : Slots g s (List.replicate g false) (List.replicate g p) [] := by
  have hs : ∀ n, selP (List.replicate n false) (List.replicate n p) = [] := fun n => by
    induction n with
    | zero => rfl
    | succ n ih => rw [List.replicate_succ, List.replicate_succ]; exact ih
  refine ⟨List.length_replicate, List.length_replicate, by rw [hs]; rfl, fun i q h1 _ => ?_, fun i q h1 _ => ?_⟩
  · rw [List.getElem?_replicate] at h1; split at h1 <;> cases h1
  · rw [List.getElem?_replicate] at h1; split at h1 <;> cases h1
theorem Slots.cnt_all (h : Slots g s iv R B) : cnt iv R g = B.length := by
  rw [cnt, List.take_of_length_le (by rw [h.li]; exact Nat.le_refl _), List.take_of_length_le (by rw [h.lr]; exact Nat.le_refl _), ← h.sel, List.length_map]
theorem cnt_yes {i : Nat} {p : PairV} (hx : iv[i]? = some true) (hp : R[i]? = some p) : cnt iv R (i + 1) = cnt iv R i + 1 := by rw [cnt, selP_succ hx hp, if_pos rfl, List.length_append]; rfl
theorem cnt_no {i : Nat} {p : PairV} (hx : iv[i]? = some false) (hp : R[i]? = some p) : cnt iv R (i + 1) = cnt iv R i := by rw [cnt, selP_succ hx hp, if_neg (by decide), List.append_nil]; rfl
theorem Slots.row (h : Slots g s iv R B) {i : Nat} {p : PairV} (hx : iv[i]? = some true) (hp : R[i]? = some p) : B.getD (cnt iv R i) [] = p.xs ∧ cnt iv R i < B.length := by
  have e := selP_at h.eq hx hp
  rw [← h.sel, List.getD_eq_getElem?_getD, List.getElem?_map]
  rw [cnt, e]
  refine ⟨rfl, ?_⟩
  rw [List.length_map]; exact (List.getElem?_eq_some_iff.1 e).1
/-- One step of the reduction. -/
theorem Slots.clear (h : Slots g s iv R B) {i : Nat} {p : PairV} (row : List Nat) (hx : iv[i]? = some true) (hp : R[i]? = some p) :
    clearTo (g + s) B row (cnt iv R (i + 1)) = vAddS (g + s) (clearTo (g + s) B row (cnt iv R i)) p.xs ((clearTo (g + s) B row (cnt iv R i)).getD i 0) := by
  rw [cnt_yes hx hp]
  show vAddS (g + s) _ (B.getD (cnt iv R i) []) (_ : Nat) = _
  rw [(h.row hx hp).1, h.lead i p hx hp, Int.toNat_natCast]
theorem lead_vals {n i : Nat} {xs : List Nat} (h : vLead n xs = (i : Int)) : i < n ∧ xs.getD i 0 ≠ 0 ∧ ∀ j, j < i → xs.getD j 0 = 0 := by
  obtain ⟨L, h1, h2⟩ := vLead_some (n := n) (xs := xs) (by rw [h]; omega)
  rw [h] at h2
  obtain rfl : i = L := by omega
  exact (vLeadTo_some xs n i).1 h1
/-- A new row is put in at its place. -/
theorem Slots.put (h : Slots g s iv R B) (hB : Bas g s B) {row : List Nat} (hl : row.length = g + s) (ha : AllB row) {L : Nat} (hL : vLead g (leftB (g + s) B row) = (L : Int)) {r : PairV} (hr : r.xs = vScale (g + s) (leftB (g + s) B row) (invN ((leftB (g + s) B row).getD L 0))) (hra : r.a.xs.length = g) (hrb : r.b.xs.length = s)
    {R' : List PairV} (hR : R'.length = g) (hf : ∀ (i : Nat) (p p' : PairV), iv[i]? = some true → R[i]? = some p → R'[i]? = some p' → p'.xs = vAddS (g + s) p.xs r.xs (p.xs.getD L 0) ∧ p'.a.xs.length = g ∧ p'.b.xs.length = s) :
    L < g ∧ iv[L]? = some false ∧ Slots g s (iv.set L true) (R'.set L r) (insB g s B row) := by
  obtain ⟨hLg, hL0, hLz⟩ := lead_vals hL
  obtain ⟨l, hrd, hlt⟩ := hB.leads
  have hLf : iv[L]? = some false := by
    have h1 := List.getElem?_eq_getElem (l := iv) (i := L) (by rw [h.li]; exact hLg)
    cases hx : iv[L]'(by rw [h.li]; exact hLg) with
    | false => rw [h1, hx]
    | true =>
      rw [hx] at h1
      have hp := List.getElem?_eq_getElem (l := R) (i := L) (by rw [h.lr]; exact hLg)
      obtain ⟨e1, e2⟩ := h.row h1 hp
      have e3 := hB.lead_at hrd e2
      rw [e1, h.lead L _ h1 hp] at e3
      have e4 := left_nought hB.ok hrd hl ha e2
      rw [← show (L : Nat) = l (cnt iv R L) by omega] at e4
      exact absurd ((vec_zero_iff (left_all hB.ok ha) L).1 e4) hL0
  refine ⟨hLg, hLf, by rw [List.length_set, h.li], by rw [List.length_set, hR], ?_, fun i p hx hp => ?_, fun i p hx hp => ?_⟩
  · have hlo : ∀ k, k < cnt iv R L → ∃ j, j < L ∧ (B.getD k []).getD j 0 ≠ 0 := fun k hk => by
      have hkl : k < (selP iv R).length := by
        rw [selP_split h.eq L, List.length_append]
        have : k < (selP (iv.take L) (R.take L)).length := hk
        omega
      obtain ⟨i, hi, h1, h2⟩ := selP_low hk h.eq (List.getElem?_eq_getElem hkl)
      refine ⟨i, hi, ?_⟩
      have e0 : B.getD k [] = ((selP iv R)[k]).xs := by rw [← h.sel, List.getD_eq_getElem?_getD, List.getElem?_map, List.getElem?_eq_getElem hkl]; rfl
      rw [e0]
      exact (lead_vals (h.lead i _ h1 h2)).2.1
    have hhi : cnt iv R L < B.length → ∀ j, j < L → (B.getD (cnt iv R L) []).getD j 0 = 0 := fun hq j hj => by
      have hkl : cnt iv R L < (selP iv R).length := by rw [← h.sel, List.length_map] at hq; exact hq
      obtain ⟨i, hi, h1, h2⟩ := selP_high (m := L) (Nat.le_refl _) h.eq (List.getElem?_eq_getElem hkl)
      have e0 : B.getD (cnt iv R L) [] = ((selP iv R)[cnt iv R L]).xs := by rw [← h.sel, List.getD_eq_getElem?_getD, List.getElem?_map, List.getElem?_eq_getElem hkl]; rfl
      rw [e0]
      exact (lead_vals (h.lead i _ h1 h2)).2.2 j (by omega)
    have hq : cnt iv R L ≤ B.length := by
      rw [← h.sel, List.length_map, selP_split h.eq L, List.length_append]
      exact Nat.le_add_right _ _
    rw [insB_at hB hl ha hL hq hlo hhi, ← hr]
    have hc : (selP iv R').map PairV.xs = clearedL (g + s) B r.xs L := by
      rw [selP_map (f := fun m => vAddS (g + s) m r.xs (m.getD L 0)) iv R R' (by rw [hR, h.lr]) fun i p p' h1 h2 h3 => (hf i p p' h1 h2 h3).1, h.sel]; rfl
    have hcnt : (selP (iv.take L) (R'.take L)).length = cnt iv R L := by
      have e := selP_map (f := fun _ => ([] : List Nat)) (iv.take L) (R.take L) (R'.take L) (by rw [List.length_take, List.length_take, hR, h.lr])
      have e2 : ∀ (a : List Bool) (c d : List PairV), c.length = d.length → (selP a c).length = (selP a d).length := fun a => by
        induction a with
        | nil => intro c d _; rfl
        | cons x a ih =>
          intro c d hcd
          match c, d, hcd with
          | [], [], _ => rfl
          | p :: c, q :: d, hcd =>
            have := ih c d (by simpa using hcd)
            cases x <;> simp [selP, this]
      exact e2 _ _ _ (by rw [List.length_take, List.length_take, hR, h.lr])
    rw [selP_set (by rw [h.li, hR]) hLf, hcnt, List.map_append, List.map_append, List.map_take, List.map_drop, hc]; rfl
  · by_cases e : i = L
    · subst e
      rw [List.getElem?_set_self (by rw [hR]; exact hLg)] at hp
      injection hp with hp
      subst hp
      rw [hr]
      refine vLead_at (by omega) ?_ fun j hj => ?_
      · rw [vScale, tab_getD, if_pos (by omega)]
        have e1 := mul_inv _ ((left_all hB.ok ha).getD i) (show 1 ≤ (leftB (g + s) B row).getD i 0 by omega)
        rw [e1]; decide
      · rw [vScale, tab_getD, if_pos (by omega), hLz j hj]
        exact mul_zero_left _
    · rw [List.getElem?_set_ne (fun e2 => e e2.symm)] at hx hp
      have hig : i < g := by rw [← h.li]; exact (List.getElem?_eq_some_iff.1 hx).1
      have hpR := List.getElem?_eq_getElem (l := R) (i := i) (by rw [h.lr]; exact hig)
      have hle := lead_vals (h.lead i _ hx hpR)
      have hxs := (hf i _ _ hx hpR hp).1
      have hu : ∀ j, j < L → r.xs.getD j 0 = 0 := fun j hj => by
        rw [hr, vScale, tab_getD, if_pos (by omega), hLz j hj]
        exact mul_zero_left _
      rw [hxs]
      rcases Nat.lt_or_ge i L with e2 | e2
      · refine vLead_at hle.1 ?_ fun j hj => ?_
        · rw [vAddS, tab_getD, if_pos hle.1, hu i e2, mul_zero_left, Nat.xor_zero]; exact hle.2.1
        · rw [vAddS, tab_getD, if_pos (by omega), hu j (by omega), mul_zero_left, Nat.xor_zero]; exact hle.2.2 j hj
      · have hc : (R[i]'(by rw [h.lr]; exact hig)).xs.getD L 0 = 0 := hle.2.2 L (by omega)
        have hra2 : AllB r.xs := by
          rw [hr]
          exact vScale_all (left_all hB.ok ha)
        have hsz := h.size i _ hx hpR
        rw [hc, vAddS_none _ (by rw [PairV.xs, List.length_append, hsz.1, hsz.2]) hra2]
        exact h.lead i _ hx hpR
  · by_cases e : i = L
    · subst e
      rw [List.getElem?_set_self (by rw [hR]; exact hLg)] at hp
      injection hp with hp
      subst hp
      exact ⟨hra, hrb⟩
    · rw [List.getElem?_set_ne (fun e2 => e e2.symm)] at hx hp
      have hig : i < g := by rw [← h.li]; exact (List.getElem?_eq_some_iff.1 hx).1
      have hpR := List.getElem?_eq_getElem (l := R) (i := i) (by rw [h.lr]; exact hig)
      exact (hf i _ _ hx hpR hp).2
end
end Go.Proofs.YtgelalbmhllccaaGreat
/- The contract of the document's own inverse. -/
namespace Go.Proofs.YtgelalbmhllccaaGreat
open Go.RowKit
set_option maxRecDepth 100000 in
set_option maxHeartbeats 400000 in
theorem rinv_any (a : Nat) (ha : a < 256) (w : World) :
    Calls Tryz.prog 83 #[.int .u8 a] w fun e w' => e = .returned (.tuple #[.int .u8 (invN a : Nat), .int .i64 (err0 a)]) ∧ w = w' := by
  go_enter Tryz.func83, Tryz.ntmps83
  go_wp2
  go_loop [4] (fun i => ∃ k : Nat, 1 ≤ k ∧ k ≤ 256 ∧ i = .int .i64 k ∧ ∀ c, c < k → 1 ≤ c → mulN a c ≠ 1) (fun i => 256 - (intOf i).toNat)
  case atStart => exact ⟨1, by omega, by omega, rfl, fun c h1 h2 => by omega⟩
  case round =>
    obtain ⟨k, hk1, hk, rfl, hno⟩ := hrel
    have HNO := Lib.hid hno
    clear hno
    by_cases hlt : k < 256
    · go_wp2_with fail
      refine (rmul_any a k ha hlt _).mono ?_
      rintro e w' ⟨rfl, rfl⟩
      by_cases h1 : mulN a k = 1
      · have HV : Hid (invN a = k) := (inv_unique a k ha hlt h1).symm
        have HE : Hid (err0 a = 0) := by
          show _ = _
          have : a ≠ 0 := fun e => by subst e; rw [mul_zero_left] at h1; omega
          rw [err0, if_neg this]
        have b1 : (((mulN a k : Nat) : Int) == 1) = true := beq_iff_eq.2 (by omega)
        clear h1
        go_wp2_with fail
        go_ret2
        exact ⟨by rw [HV.out, HE.out]; rfl, rfl⟩
      · have b1 : (((mulN a k : Nat) : Int) == 1) = false := beq_eq_false_iff_ne.2 (by omega)
        have H1 := Lib.hid h1
        clear h1
        go_wp2_with fail
        go_round
        case rel =>
          refine ⟨k + 1, by omega, by omega, by go_num, fun c hc h2 => ?_⟩
          by_cases e : c = k
          · subst e; exact H1.out
          · exact HNO.out c (by omega) h2
        case measure => simp [intOf]; omega
    · have e0 : a = 0 := by
        apply Classical.byContradiction
        intro h
        exact HNO.out (invN a) (by have := invN_lt a; omega) (invN_pos a (by omega)) (mul_inv a ha (by omega))
      subst e0
      go_wp2_with fail
      go_ret2
      exact ⟨rfl, rfl⟩
end Go.Proofs.YtgelalbmhllccaaGreat
