/- Lists of generations, each with where its basis lies. -/
import Derived.Test.YtcjjhblgejkkeaaGreatRl
import Derived.Test.YtcjjhblgejkkeaaGreatStApp
import Derived.Test.YtcjjhblgejkkeaaGreatRb
import Derived.Test.YtcjjhblgejkkeaaGreatWr
import Derived.Deep.DeepCutAuto
import Derived.Deep.CutBlock
import Derived.Test.YtcjjhblgejkkeaaGreatDr
import Derived.Test.YtcjjhblgejkkeaaGreatWi
namespace Go.Proofs.YtcjjhblgejkkeaaGreat
open Go.RowKit Lin
set_option linter.unusedVariables false
set_option linter.unusedSimpArgs false
/-- A generation, and where its basis lies. -/
def gnVals (x : Nat × Nat) : List Value := [.int .u64 (x.1 : Int), .pointer (some ⟨x.2, 0, none⟩)]
theorem gn_len (l : List (Nat × Nat)) : (l.flatMap gnVals).length = l.length * 2 := by
  induction l with
  | nil => rfl
  | cons p l ih => rw [List.flatMap_cons, List.length_append, ih, List.length_cons]; simp [gnVals]; omega
theorem gn_at : ∀ (l : List (Nat × Nat)) (i : Nat) (x : Nat × Nat), l[i]? = some x → (l.flatMap gnVals)[i * 2]? = some (.int .u64 (x.1 : Int)) ∧ (l.flatMap gnVals)[i * 2 + 1]? = some (.pointer (some ⟨x.2, 0, none⟩))
  | [], i, p, h => by simp at h
  | q :: l, 0, p, h => by
    simp at h
    subst h
    exact ⟨rfl, rfl⟩
  | q :: l, i + 1, p, h => by
    have ih := gn_at l i p (by simpa using h)
    have e : ((q :: l).flatMap gnVals) = Value.int .u64 (q.1 : Int) :: Value.pointer (some ⟨q.2, 0, none⟩) :: l.flatMap gnVals := rfl
    rw [e, show (i + 1) * 2 = i * 2 + 1 + 1 by omega]
    simpa using ih
/-- Such a list, to be read. -/
def GnIn (w : World) (F : Nat → Prop) (A : Option Addr) (n : Nat) (l : List (Nat × Nat)) : Prop :=
  l.length = n ∧ (0 < n → ∃ b off, A = some ⟨b, off, none⟩ ∧ F b ∧ b < w.heap.size ∧ ∀ (i : Nat) (x : Nat × Nat), l[i]? = some x → w.cell? ⟨b, off + i * 2, none⟩ = some (.int .u64 (x.1 : Int)) ∧ w.cell? ⟨b, off + i * 2 + 1, none⟩ = some (.pointer (some ⟨x.2, 0, none⟩)))
theorem GnIn.turned {w w' : World} {F G : Nat → Prop} {A : Option Addr} {n : Nat} {l : List (Nat × Nat)} (h : GnIn w F A n l) (k : Turned G w w') (hd : ∀ b, F b → ¬ G b) : GnIn w' F A n l := ⟨h.1, fun hn => by
  obtain ⟨b, off, e, hb, hl, hc⟩ := h.2 hn
  exact ⟨b, off, e, hb, Nat.lt_of_lt_of_le hl k.size, fun i x hi => ⟨k.cell (hc i x hi).1 (hd b hb), k.cell (hc i x hi).2 (hd b hb)⟩⟩⟩
theorem GnIn.keep {w w' : World} {F : Nat → Prop} {A : Option Addr} {n : Nat} {l : List (Nat × Nat)} (h : GnIn w F A n l) (k : Keep w w') : GnIn w' F A n l := h.turned (Turned.of_keep (F := fun _ => False) k) fun _ _ e => e
theorem GnIn.nil (w : World) (F : Nat → Prop) (A : Option Addr) : GnIn w F A 0 [] := ⟨rfl, fun h => absurd h (by omega)⟩
theorem GnIn.at_ {w : World} {F : Nat → Prop} {A : Option Addr} {n : Nat} {l : List (Nat × Nat)} (h : GnIn w F A n l) {i : Nat} (hi : i < n) : ∃ b off x, A = some ⟨b, off, none⟩ ∧ F b ∧ b < w.heap.size ∧ l[i]? = some x ∧ w.cell? ⟨b, off + i * 2, none⟩ = some (.int .u64 (x.1 : Int)) ∧ w.cell? ⟨b, off + i * 2 + 1, none⟩ = some (.pointer (some ⟨x.2, 0, none⟩)) := by
  obtain ⟨b, off, e, hb, hl, hc⟩ := h.2 (by omega)
  have hi' : i < l.length := by rw [h.1]; exact hi
  exact ⟨b, off, l[i], e, hb, hl, List.getElem?_eq_getElem hi', (hc i _ (List.getElem?_eq_getElem hi')).1, (hc i _ (List.getElem?_eq_getElem hi')).2⟩
/-- Such a list of one's own. -/
def OwnGn (w : World) (base : Nat) (A : Option Addr) (n c : Nat) (l : List (Nat × Nat)) : Prop := w.ownsRow base 129 2 (.slice A n c) n (l.flatMap gnVals)
namespace OwnGn
variable {w w' : World} {base n c : Nat} {A : Option Addr} {l : List (Nat × Nat)}
theorem length (h : OwnGn w base A n c l) : l.length = n := by have := h.1; rw [gn_len] at this; omega
theorem none_ (w : World) (base : Nat) : OwnGn w base none 0 0 [] := World.ownsRow_nil w base _ 2
theorem rowLe (h : OwnGn w base A n c l) : ∀ k, (Value.slice A n c).ownBlock = some k → base ≤ k := fun k hk => (World.ownsRow.lt h k hk).1
theorem keep (h : OwnGn w base A n c l) (k : Keep w w') : OwnGn w' base A n c l :=
  h.kept (row := none) ⟨k.os, k.tape, k.output, k.size, fun i hi _ => k.block i hi⟩ (by
    cases hb : (Value.slice A n c).ownBlock with
    | none => exact Or.inl rfl
    | some g => exact Or.inr (by simp))
theorem alloc (h : OwnGn w base A n c l) (o : Obj) : OwnGn (w.alloc o) base A n c l := World.ownsRow.alloc h o
theorem lower {base' : Nat} (h : OwnGn w base A n c l) (hb : base' ≤ base) : OwnGn w base' A n c l := by
  refine ⟨h.1, ?_⟩
  rcases h.2 with h1 | ⟨g, cap, cur, hv, hg, r⟩
  · exact Or.inl h1
  · exact Or.inr ⟨g, cap, cur, hv, Nat.le_trans hb hg, r⟩
theorem ins (h : OwnGn w base A n c l) : GnIn w (fun b => base ≤ b) A n l := by
  refine ⟨h.length, fun hn => ?_⟩
  rcases h.2 with ⟨hv, h0⟩ | ⟨g, cap, cur, hv, hg, hh, _⟩
  · omega
  · injection hv with h1 h2 h3
    subst h1
    refine ⟨g, 0, rfl, hg, (Array.getElem?_eq_some_iff.1 hh).1, fun i x hi => ?_⟩
    obtain ⟨v1, v2⟩ := gn_at l i x hi
    have c1 := World.ownsRow.cells h (g := g) rfl _ _ v1
    have c2 := World.ownsRow.cells h (g := g) rfl _ _ v2
    have ha : ∀ j, (⟨g, 0, none⟩ : Addr).add j = ⟨g, 0 + j, none⟩ := fun j => by unfold Addr.add; split <;> simp_all
    rw [ha] at c1 c2
    exact ⟨c1, c2⟩
end OwnGn
theorem infoGn : (Tryz.prog.info? 129).map (fun i => (i.zero, i.size, i.bytes)) = some (some (.agg #[.int .u64 0, .pointer none]), 2, 16) := by kernel_rfl
set_option maxRecDepth 100000 in
/-- append(rows, others...). -/
theorem run_append_gns {w : World} {base n c m cx t : Nat} {A B : Option Addr} {ps news : List (Nat × Nat)} (ht : Tryz.prog.underlying t = some (.slice 129)) (hown : OwnGn w base A n c ps) (hl : news.length = m)
    (hx : 0 < m → ∃ b off, B = some ⟨b, off, none⟩ ∧ ∀ i p, news[i]? = some p → w.cell? ⟨b, off + i * 2, none⟩ = some (.int .u64 (p.1 : Int)) ∧ w.cell? ⟨b, off + i * 2 + 1, none⟩ = some (.pointer (some ⟨p.2, 0, none⟩)))
    (hlen : n + m ≤ 1000000) (hbase : base ≤ w.heap.size) (ty : TypeId) :
    ∃ A2 c2 w', (Builtin.append_ #[t, t] ty #[.slice A n c, .slice B m cx]).run Tryz.prog w = .ok (.slice A2 (n + m) c2) w' ∧ OwnGn w' base A2 (n + m) c2 (ps ++ news) ∧ w.grownBy w' (Value.slice A n c).ownBlock ∧ ((Value.slice A2 (n + m) c2).ownBlock = (Value.slice A n c).ownBlock ∨ (Value.slice A2 (n + m) c2).ownBlock = some w.heap.size) := by
  obtain ⟨i0, hi0, hz0, hz1, hz2⟩ := info_parts infoGn
  by_cases hm : m = 0
  · subst hm
    have hy : news = [] := List.eq_nil_of_length_eq_zero hl
    subst hy
    cases B with
    | some ad =>
      obtain ⟨v', w', hrun, h2, h3, _, h5⟩ := run_append_own_at (P := Tryz.prog) w base t ty _ i0 (.agg #[.int .u64 0, .pointer none]) 2 16 ht hi0 hz0 hz1 hz2 rfl (by decide) _ n _ hown ad 0 cx [] rfl (fun j u hu => by simp at hu) (fun u hu => by simp at hu) (by unfold maxLen; omega) (by omega) hbase
      obtain ⟨A2, c2, rfl⟩ := own_shape h2
      exact ⟨A2, c2, w', hrun, by simpa [OwnGn] using h2, h3, h5⟩
    | none =>
      refine ⟨A, c, w, ?_, by simpa using hown, World.grownBy.refl w _, Or.inl rfl⟩
      rcases hown.2 with ⟨hv, rfl⟩ | ⟨g, cap, cur, hv, _, _, hnc, _⟩
      · simp [Builtin.append_, run_underlying ht, sizeOf, typeInfo, hi0, Builtin.lenOf, Builtin.firstCells, hv]
      · injection hv with e1 _ e3
        subst e1; subst e3
        simp [Builtin.append_, run_underlying ht, sizeOf, typeInfo, hi0, Builtin.lenOf, Builtin.firstCells, hnc, storeCells]
  · obtain ⟨b, off, rfl, hc⟩ := hx (by omega)
    have hcl : (news.flatMap gnVals).length = m * 2 := by rw [gn_len, hl]
    have ha : ∀ j, (⟨b, off, none⟩ : Addr).add j = ⟨b, off + j, none⟩ := fun j => by unfold Addr.add; split <;> simp_all
    obtain ⟨v', w', hrun, h2, h3, _, h5⟩ := run_append_own_at (P := Tryz.prog) w base t ty _ i0 (.agg #[.int .u64 0, .pointer none]) 2 16 ht hi0 hz0 hz1 hz2 rfl (by decide) _ n _ hown ⟨b, off, none⟩ m cx (news.flatMap gnVals) hcl
      (fun j u hu => by
        have hj : j < m * 2 := by rw [← hcl]; exact (List.getElem?_eq_some_iff.1 hu).1
        have hp := List.getElem?_eq_getElem (l := news) (i := j / 2) (by omega)
        obtain ⟨v1, v2⟩ := gn_at news (j / 2) _ hp
        obtain ⟨s1, s2⟩ := hc (j / 2) _ hp
        rw [ha]
        rcases Nat.mod_two_eq_zero_or_one j with e | e
        · have e2 : j / 2 * 2 = j := by omega
          rw [e2] at v1 s1
          rw [v1] at hu
          rw [s1]; exact hu
        · have e2 : j / 2 * 2 + 1 = j := by omega
          rw [Nat.add_assoc] at s2
          rw [e2] at v2 s2
          rw [v2] at hu
          rw [s2]; exact hu)
      (fun u hu => by
        obtain ⟨p, _, hp⟩ := List.mem_flatMap.1 hu
        simp [gnVals] at hp
        rcases hp with rfl | rfl <;> rfl) (by unfold maxLen; omega) (by omega) hbase
    have e : ps.flatMap gnVals ++ news.flatMap gnVals = (ps ++ news).flatMap gnVals := by rw [List.flatMap_append]
    rw [e] at h2
    obtain ⟨A2, c2, rfl⟩ := own_shape h2
    exact ⟨A2, c2, w', hrun, h2, h3, h5⟩
theorem wp_append_gns {w : World} {o : Oper} {a : Act} {K : Act → World → Prop} {Q : Exit → Act → World → Prop} (s x : Operand) (t : TypeId)
    (ho : o.op = .call { callee := .builtin .append, args := #[s, x], argTypes := #[t, t] }) {base n c m cx nm : Nat} {A B : Option Addr} {ps news : List (Nat × Nat)} (hnm : n + m = nm) (ht : Tryz.prog.underlying t = some (.slice 129))
    (hs : a.eval s = .slice A n c) (hown : OwnGn w base A n c ps) (hx0 : a.eval x = .slice B m cx) (hl : news.length = m) (hx : 0 < m → ∃ b off, B = some ⟨b, off, none⟩ ∧ ∀ i p, news[i]? = some p → w.cell? ⟨b, off + i * 2, none⟩ = some (.int .u64 (p.1 : Int)) ∧ w.cell? ⟨b, off + i * 2 + 1, none⟩ = some (.pointer (some ⟨p.2, 0, none⟩))) (hlen : n + m ≤ 1000000) (hbase : base ≤ w.heap.size)
    (h : ∀ A2 c2 w', OwnGn w' base A2 nm c2 (ps ++ news) → w.grownBy w' (Value.slice A n c).ownBlock → ((Value.slice A2 nm c2).ownBlock = (Value.slice A n c).ownBlock ∨ (Value.slice A2 nm c2).ownBlock = some w.heap.size) → K (a.put o.dst (.slice A2 nm c2)) w') : o.wp Tryz.prog a w K Q := by
  subst hnm
  obtain ⟨A2, c2, w', hr, h2, h3, h4⟩ := run_append_gns (cx := cx) ht hown hl hx hlen hbase o.type
  unfold Oper.wp execOp
  simp only [ho, resolve, invoke, builtin, Sem.run_bind, Sem.run_pure, Result.andThen_ok, List.map_toArray, List.map_cons, List.map_nil, hs, hx0, hr]
  exact h A2 c2 w' h2 h3 h4
theorem wpList_append_gns {w : World} {ops : Array Oper} {rest : List Oper} {o : Oper} {a : Act} {Q : Exit → Act → World → Prop} (hgd : o.guard = none) (s x : Operand) (t : TypeId)
    (ho : o.op = .call { callee := .builtin .append, args := #[s, x], argTypes := #[t, t] }) {base n c m cx nm : Nat} {A B : Option Addr} {ps news : List (Nat × Nat)} (hnm : n + m = nm) (ht : Tryz.prog.underlying t = some (.slice 129))
    (hs : a.eval s = .slice A n c) (hown : OwnGn w base A n c ps) (hx0 : a.eval x = .slice B m cx) (hl : news.length = m) (hx : 0 < m → ∃ b off, B = some ⟨b, off, none⟩ ∧ ∀ i p, news[i]? = some p → w.cell? ⟨b, off + i * 2, none⟩ = some (.int .u64 (p.1 : Int)) ∧ w.cell? ⟨b, off + i * 2 + 1, none⟩ = some (.pointer (some ⟨p.2, 0, none⟩))) (hlen : n + m ≤ 1000000) (hbase : base ≤ w.heap.size)
    (h : ∀ A2 c2 w', OwnGn w' base A2 nm c2 (ps ++ news) → w.grownBy w' (Value.slice A n c).ownBlock → ((Value.slice A2 nm c2).ownBlock = (Value.slice A n c).ownBlock ∨ (Value.slice A2 nm c2).ownBlock = some w.heap.size) → wpList Tryz.prog ops Q rest (a.put o.dst (.slice A2 nm c2)) w') : wpList Tryz.prog ops Q (o :: rest) a w :=
  wpList_plain hgd fun _ hK => wp_append_gns s x t ho hnm ht hs hown hx0 hl hx hlen hbase fun A2 c2 w' h2 h3 h4 => hK _ _ (h A2 c2 w' h2 h3 h4)
/-- The address of a slice of rows cut at its head. -/
def dropG (A : Option Addr) (c s : Nat) : Option Addr := if c = s then A else A.map (·.add (s * 2))
theorem dropG_some (b off c s : Nat) (h : s < c) : dropG (some ⟨b, off, none⟩) c s = some ⟨b, off + s * 2, none⟩ := by
  rw [dropG, if_neg (by omega)]
  simp only [Option.map_some, Addr.add]
  split <;> simp_all
theorem run_drop_gn {t : TypeId} (ht : Tryz.prog.underlying t = some (.slice (Tryz.prog.elem t))) (he : Tryz.prog.elem t = 129) (n c s : Nat) (A : Option Addr) (hs : s ≤ n) (w : World) :
    (Instr.slice t (.slice A n c) (some (.int .i64 (s : Int))) none none).run Tryz.prog w = .ok (.slice (dropG A c s) (n - s) (c - s)) w := by
  obtain ⟨i0, hi0, hz0, hz1, hz2⟩ := info_parts infoGn
  rw [run_slice_l (P := Tryz.prog) (w := w) t A n c ht .i64 s (by omega) (by omega)]
  simp [sizeOf, typeInfo, he, hi0, hz1, sliced, dropG]

/-- The first k of such a list, and the rest. -/
theorem GnIn.take {w : World} {F : Nat → Prop} {A : Option Addr} {n k : Nat} {l : List (Nat × Nat)} (h : GnIn w F A n l) (hk : k ≤ n) : GnIn w F A k (l.take k) := ⟨by rw [List.length_take, h.1]; omega, fun hp => by
  obtain ⟨b, off, e, hb, hl, hc⟩ := h.2 (by omega)
  refine ⟨b, off, e, hb, hl, fun i x hi => hc i x ?_⟩
  rw [List.getElem?_take] at hi
  split at hi
  · exact hi
  · cases hi⟩
theorem GnIn.drop {w : World} {F : Nat → Prop} {A : Option Addr} {n c k : Nat} {l : List (Nat × Nat)} (h : GnIn w F A n l) (hc : n ≤ c) : GnIn w F (dropG A c k) (n - k) (l.drop k) := ⟨by rw [List.length_drop, h.1], fun hp => by
  obtain ⟨b, off, rfl, hb, hl, hcl⟩ := h.2 (by omega)
  refine ⟨b, off + k * 2, dropG_some b off c k (by omega), hb, hl, fun i x hi => ?_⟩
  rw [List.getElem?_drop] at hi
  have h1 := hcl (k + i) x hi
  rw [show off + (k + i) * 2 = off + k * 2 + i * 2 by omega] at h1
  exact h1⟩
theorem GnIn.cells {w : World} {F : Nat → Prop} {A : Option Addr} {n : Nat} {l : List (Nat × Nat)} (h : GnIn w F A n l) : 0 < n → ∃ b off, A = some ⟨b, off, none⟩ ∧ ∀ (i : Nat) (p : Nat × Nat), l[i]? = some p → w.cell? ⟨b, off + i * 2, none⟩ = some (.int .u64 (p.1 : Int)) ∧ w.cell? ⟨b, off + i * 2 + 1, none⟩ = some (.pointer (some ⟨p.2, 0, none⟩)) := fun hp => by
  obtain ⟨b, off, e, hb, hl, hc⟩ := h.2 hp
  exact ⟨b, off, e, hc⟩
theorem OwnGn.cap {w : World} {base n c : Nat} {A : Option Addr} {l : List (Nat × Nat)} (h : OwnGn w base A n c l) : n ≤ c := by
  rcases h.2 with ⟨hv, h0⟩ | ⟨g, cap, cur, hv, hg, hh, hnc, _⟩
  · omega
  · injection hv with h1 h2 h3
    omega
theorem OwnGn.turned {F : Nat → Prop} {w w' : World} {base n c : Nat} {A : Option Addr} {l : List (Nat × Nat)} (h : OwnGn w base A n c l) (k : Turned F w w') (hn : ∀ b, (Value.slice A n c).ownBlock = some b → ¬ F b) : OwnGn w' base A n c l := k.owns h hn
/-- What is read lies in one's own block. -/
theorem OwnGn.insO {w : World} {base n c : Nat} {A : Option Addr} {l : List (Nat × Nat)} (h : OwnGn w base A n c l) : GnIn w (fun b => (Value.slice A n c).ownBlock = some b) A n l := by
  obtain ⟨h1, h2⟩ := h.ins
  refine ⟨h1, fun hn => ?_⟩
  obtain ⟨b, off, e, hb, hl, hc⟩ := h2 hn
  subst e
  exact ⟨b, off, rfl, rfl, hl, hc⟩
end Go.Proofs.YtcjjhblgejkkeaaGreat
/- The document's own relay in memory. -/
namespace Go.Proofs.YtcjjhblgejkkeaaGreat
open Go.RowKit Lin
set_option linter.unusedVariables false
set_option linter.unusedSimpArgs false
/-- A generation that was asked for, and its basis. -/
structure GenS where
  n : Nat
  q : Nat
  F : Nat → Prop
  B : List (List Nat)
def GenS.Ok (x : GenS) (w : World) (g s : Nat) : Prop := Bas g s x.B ∧ ∃ bi br iv R, RefR w x.F x.q g s bi br iv R ∧ Slots g s iv R x.B
theorem GenS.Ok.turned {x : GenS} {w w' : World} {g s : Nat} {G : Nat → Prop} (h : x.Ok w g s) (t : Turned G w w') (hd : ∀ a, x.F a → ¬ G a) : x.Ok w' g s := by
  obtain ⟨hb, bi, br, iv, R, h1, h2⟩ := h
  exact ⟨hb, bi, br, iv, R, h1.turned t hd, h2⟩
theorem GenS.Ok.lt {x : GenS} {w : World} {g s : Nat} (h : x.Ok w g s) : ∀ a, x.F a → a < w.heap.size := by
  obtain ⟨hb, bi, br, iv, R, h1, h2⟩ := h
  exact h1.lt
def gnL (G : List GenS) : List (Nat × Nat) := G.map fun x => (x.n, x.q)
structure RefYA (w : World) (F : Nat → Prop) (p g s k b : Nat) (L : Nat → List (List Nat)) (wb : Nat) (A : Option Addr) (n c : Nat) (G : List GenS) : Prop where
  block : w.heap[p]? = some (.cells #[.int .i64 (g : Int), .int .i64 (s : Int), .pointer (some ⟨wb, 0, none⟩), .slice A n c] 67 (0, 0))
  win : RefW w wb k b
  own : OwnGn w 0 A n c (gnL G)
  ok : ∀ x ∈ G, x.Ok w g s
  up : ∀ (i j : Nat) (x y : GenS), i < j → G[i]? = some x → G[j]? = some y → x.n < y.n
  inw : ∀ x ∈ G, winIn b k x.n = true
  ap : ∀ (i j : Nat) (x y : GenS), i ≠ j → G[i]? = some x → G[j]? = some y → ∀ a, x.F a → ¬ y.F a
  off : ∀ x ∈ G, ∀ a, x.F a → a ≠ p ∧ a ≠ wb ∧ ¬ (Value.slice A n c).ownBlock = some a
  ne : p ≠ wb ∧ ∀ a, (Value.slice A n c).ownBlock = some a → a ≠ p ∧ a ≠ wb
  fp : F p
  fw : F wb
  fo : ∀ a, (Value.slice A n c).ownBlock = some a → F a
  fx : ∀ x ∈ G, ∀ a, x.F a → F a
  lt : ∀ a, F a → a < w.heap.size
  g1 : 1 ≤ g
  g2 : g ≤ 255
  s1 : 1 ≤ s
  s2 : s ≤ 65535
  l : ∀ x ∈ G, x.B = L x.n
  no : ∀ m, (∀ x ∈ G, x.n ≠ m) → L m = []
def RefY (w : World) (F : Nat → Prop) (p g s k b : Nat) (L : Nat → List (List Nat)) : Prop := ∃ wb A n c G, RefYA w F p g s k b L wb A n c G
section
variable {w w' : World} {F H : Nat → Prop} {p g s k b wb n c : Nat} {L : Nat → List (List Nat)} {A : Option Addr} {G : List GenS}
namespace RefYA
theorem r (h : RefYA w F p g s k b L wb A n c G) : RefY w F p g s k b L := ⟨wb, A, n, c, G, h⟩
theorem turned (h : RefYA w F p g s k b L wb A n c G) (t : Turned H w w') (hd : ∀ a, F a → ¬ H a) : RefYA w' F p g s k b L wb A n c G :=
  ⟨(t.block p (h.lt p h.fp) (hd p h.fp)).trans h.block, h.win.turned t (hd wb h.fw), h.own.turned t fun a ha => hd a (h.fo a ha), fun x hx => (h.ok x hx).turned t fun a ha => hd a (h.fx x hx a ha), h.up, h.inw, h.ap, h.off, h.ne, h.fp, h.fw, h.fo, h.fx, fun a ha => Nat.lt_of_lt_of_le (h.lt a ha) t.size, h.g1, h.g2, h.s1, h.s2, h.l, h.no⟩
theorem keep (h : RefYA w F p g s k b L wb A n c G) (t : Keep w w') : RefYA w' F p g s k b L wb A n c G := h.turned (Turned.of_keep (F := fun _ => False) t) fun _ _ e => e
theorem c0 (h : RefYA w F p g s k b L wb A n c G) : w.cell? ⟨p, 0, none⟩ = some (.int .i64 (g : Int)) := cell_of_row _ _ _ _ _ _ h.block
theorem c1 (h : RefYA w F p g s k b L wb A n c G) : w.cell? ⟨p, 1, none⟩ = some (.int .i64 (s : Int)) := cell_of_row _ _ _ _ _ _ h.block
theorem c2 (h : RefYA w F p g s k b L wb A n c G) : w.cell? ⟨p, 2, none⟩ = some (.pointer (some ⟨wb, 0, none⟩)) := cell_of_row _ _ _ _ _ _ h.block
theorem c3 (h : RefYA w F p g s k b L wb A n c G) : w.cell? ⟨p, 3, none⟩ = some (.slice A n c) := cell_of_row _ _ _ _ _ _ h.block
theorem free (h : RefYA w F p g s k b L wb A n c G) (i : Nat) : w.frozen? ⟨p, i, none⟩ = false := by simp [World.frozen?, h.block]
theorem len (h : RefYA w F p g s k b L wb A n c G) : G.length = n := by have := h.own.length; rwa [gnL, List.length_map] at this
/-- Of a window, there are no more than its width. -/
theorem from_ (h : RefYA w F p g s k b L wb A n c G) : ∀ (i : Nat) (x : GenS), G[i]? = some x → b + i ≤ x.n
  | 0, x, hx => by
    have h1 := h.inw x (List.mem_of_getElem? hx)
    rw [winIn_iff] at h1
    omega
  | i + 1, x, hx => by
    have hi : i < G.length := by have := (List.getElem?_eq_some_iff.1 hx).1; omega
    have h1 := h.from_ i G[i] (List.getElem?_eq_getElem hi)
    have h2 := h.up i (i + 1) G[i] x (by omega) (List.getElem?_eq_getElem hi) hx
    omega
theorem short (h : RefYA w F p g s k b L wb A n c G) : n ≤ k := by
  rcases Nat.eq_zero_or_pos n with e | e
  · omega
  · have hl := h.len
    have hx : G[n - 1]? = some (G[n - 1]'(by omega)) := List.getElem?_eq_getElem (by omega)
    have h1 := h.from_ (n - 1) _ hx
    have h2 := h.inw _ (List.mem_of_getElem? hx)
    rw [winIn_iff, endN] at h2
    omega
/-- One of the bases has turned. -/
theorem put (h : RefYA w F p g s k b L wb A n c G) {i : Nat} {x : GenS} {F' : Nat → Prop} {B' : List (List Nat)} (hx : G[i]? = some x) (ok' : GenS.Ok ⟨x.n, x.q, F', B'⟩ w' g s) (hf : ∀ a, F' a → x.F a ∨ w.heap.size ≤ a) (t : Turned x.F w w') :
    RefYA w' (fun a => F a ∨ F' a) p g s k b (upd L x.n B') wb A n c (G.set i ⟨x.n, x.q, F', B'⟩) := by
  have hi : i < G.length := (List.getElem?_eq_some_iff.1 hx).1
  have hm := List.mem_of_getElem? hx
  have ho := h.off x hm
  have get : ∀ (j : Nat) (y : GenS), (G.set i ⟨x.n, x.q, F', B'⟩)[j]? = some y → (j = i ∧ y = ⟨x.n, x.q, F', B'⟩) ∨ (j ≠ i ∧ G[j]? = some y) := fun j y hy => set_get hy
  have mem : ∀ y ∈ G.set i ⟨x.n, x.q, F', B'⟩, y = ⟨x.n, x.q, F', B'⟩ ∨ ∃ j, j ≠ i ∧ G[j]? = some y := fun y hy => by
    obtain ⟨j, hj⟩ := List.getElem?_of_mem hy
    rcases get j y hj with ⟨_, e⟩ | e
    · exact Or.inl e
    · exact Or.inr ⟨j, e⟩
  have eG : gnL (G.set i ⟨x.n, x.q, F', B'⟩) = gnL G := by
    unfold gnL
    rw [List.map_set]
    refine List.ext_getElem? fun j => ?_
    rw [List.getElem?_set, List.length_map]
    by_cases e : i = j
    · subst e
      rw [if_pos rfl, if_pos hi, List.getElem?_map, hx]; rfl
    · rw [if_neg e]
  have nn : ∀ (j : Nat) (y : GenS), j ≠ i → G[j]? = some y → y.n ≠ x.n := fun j y hj hy e => by
    rcases Nat.lt_or_ge j i with e2 | e2
    · have := h.up j i y x e2 hy hx; omega
    · have := h.up i j x y (by omega) hx hy; omega
  have fF : ∀ a, F' a → F a ∨ w.heap.size ≤ a := fun a ha => (hf a ha).imp (h.fx x hm a) id
  refine ⟨(t.block p (h.lt p h.fp) fun e => (ho p e).1 rfl).trans h.block, h.win.turned t fun e => (ho wb e).2.1 rfl, by rw [eG]; exact h.own.turned t fun a ha e => (ho a e).2.2 ha, fun y hy => ?_, fun j l y z hjl hy hz => ?_, fun y hy => ?_, fun j l y z hjl hy hz a ha hb => ?_, fun y hy a ha => ?_, h.ne, Or.inl h.fp, Or.inl h.fw, fun a ha => Or.inl (h.fo a ha), fun y hy a ha => ?_, fun a ha => ?_, h.g1, h.g2, h.s1, h.s2, fun y hy => ?_, fun m hm2 => ?_⟩
  · rcases mem y hy with rfl | ⟨j, hj, hy2⟩
    · exact ok'
    · exact (h.ok y (List.mem_of_getElem? hy2)).turned t fun a ha e => h.ap j i y x hj hy2 hx a ha e
  · rcases get j y hy with ⟨rfl, rfl⟩ | ⟨hj, hy2⟩
    · rcases get l z hz with ⟨rfl, rfl⟩ | ⟨hl, hz2⟩
      · omega
      · exact h.up j l x z hjl hx hz2
    · rcases get l z hz with ⟨rfl, rfl⟩ | ⟨hl, hz2⟩
      · exact h.up j l y x hjl hy2 hx
      · exact h.up j l y z hjl hy2 hz2
  · rcases mem y hy with rfl | ⟨j, hj, hy2⟩
    · exact h.inw x hm
    · exact h.inw y (List.mem_of_getElem? hy2)
  · rcases get j y hy with ⟨rfl, rfl⟩ | ⟨hj, hy2⟩
    · rcases get l z hz with ⟨rfl, rfl⟩ | ⟨hl, hz2⟩
      · exact hjl rfl
      · rcases hf a ha with e | e
        · exact h.ap j l x z hjl hx hz2 a e hb
        · have := (h.ok z (List.mem_of_getElem? hz2)).lt a hb; omega
    · rcases get l z hz with ⟨rfl, rfl⟩ | ⟨hl, hz2⟩
      · rcases hf a hb with e | e
        · exact h.ap j l y x hjl hy2 hx a ha e
        · have := (h.ok y (List.mem_of_getElem? hy2)).lt a ha; omega
      · exact h.ap j l y z hjl hy2 hz2 a ha hb
  · rcases mem y hy with rfl | ⟨j, hj, hy2⟩
    · rcases hf a ha with e | e
      · exact ho a e
      · have h1 := h.lt p h.fp
        have h2 := h.lt wb h.fw
        exact ⟨by omega, by omega, fun e2 => by have := h.lt a (h.fo a e2); omega⟩
    · exact h.off y (List.mem_of_getElem? hy2) a ha
  · rcases mem y hy with rfl | ⟨j, hj, hy2⟩
    · exact Or.inr ha
    · exact Or.inl (h.fx y (List.mem_of_getElem? hy2) a ha)
  · rcases ha with ha | ha
    · exact Nat.lt_of_lt_of_le (h.lt a ha) t.size
    · exact ok'.lt a ha
  · rcases mem y hy with rfl | ⟨j, hj, hy2⟩
    · exact (upd_at L x.n B').symm
    · rw [upd_ne L B' (nn j y hj hy2)]; exact h.l y (List.mem_of_getElem? hy2)
  · have h1 : (⟨x.n, x.q, F', B'⟩ : GenS) ∈ G.set i ⟨x.n, x.q, F', B'⟩ := List.mem_set hi _
    rw [upd_ne L B' fun e => hm2 _ h1 e.symm]
    refine h.no m fun y hy e => ?_
    obtain ⟨j, hj⟩ := List.getElem?_of_mem hy
    by_cases e2 : j = i
    · subst e2
      rw [hx] at hj
      injection hj with hj
      subst hj
      exact hm2 _ h1 e
    · refine hm2 y ?_ e
      have : (G.set i ⟨x.n, x.q, F', B'⟩)[j]? = some y := by rw [List.getElem?_set, if_neg fun e => e2 e.symm]; exact hj
      exact List.mem_of_getElem? this
end RefYA
theorem ins_get {α : Type} {G : List α} {i j : Nat} {x y : α} (hi : i ≤ G.length) (h : (G.take i ++ [x] ++ G.drop i)[j]? = some y) : (j = i ∧ y = x) ∨ (j < i ∧ G[j]? = some y) ∨ (i < j ∧ G[j - 1]? = some y) := by
  have h1 : (G.take i).length = i := by rw [List.length_take]; omega
  have h2 : (G.take i ++ [x]).length = i + 1 := by rw [List.length_append, h1]; rfl
  rcases Nat.lt_trichotomy j i with e | e | e
  · rw [List.getElem?_append_left (by omega), List.getElem?_append_left (by omega), List.getElem?_take, if_pos e] at h
    exact Or.inr (Or.inl ⟨e, h⟩)
  · subst e
    rw [List.getElem?_append_left (by omega), List.getElem?_append_right (by omega), h1, Nat.sub_self] at h
    injection h with h
    exact Or.inl ⟨rfl, h.symm⟩
  · rw [List.getElem?_append_right (by omega), h2, List.getElem?_drop] at h
    rw [show i + (j - (i + 1)) = j - 1 by omega] at h
    exact Or.inr (Or.inr ⟨e, h⟩)
theorem ins_at {α : Type} {G : List α} {i : Nat} {x : α} (hi : i ≤ G.length) : (G.take i ++ [x] ++ G.drop i)[i]? = some x := by
  have h1 : (G.take i).length = i := by rw [List.length_take]; omega
  have h2 : (G.take i ++ [x]).length = i + 1 := by rw [List.length_append, h1]; rfl
  rw [List.getElem?_append_left (by omega), List.getElem?_append_right (by omega), h1, Nat.sub_self]; rfl
theorem gnL_ins (G : List GenS) (i : Nat) (x : GenS) : gnL (G.take i ++ [x] ++ G.drop i) = [] ++ (gnL G).take i ++ [(x.n, x.q)] ++ (gnL G).drop i := by
  simp [gnL, List.map_take, List.map_drop]
theorem ins_old {α : Type} {G : List α} {i : Nat} {x y : α} (h : y ∈ G) : y ∈ G.take i ++ [x] ++ G.drop i := by
  rw [← List.take_append_drop i G] at h
  simp only [List.mem_append] at h ⊢
  rcases h with h | h
  · exact Or.inl (Or.inl h)
  · exact Or.inr h
namespace RefYA
/-- Another generation's basis is laid in between. -/
theorem insert {w8 : World} {i c8 base : Nat} {A8 : Option Addr} {x : GenS} (h : RefYA w F p g s k b L wb A n c G) (kp : Keep w w8) (hi : i ≤ n) (ho : OwnGn w8 base A8 (n + 1) c8 (gnL (G.take i ++ [x] ++ G.drop i))) (hb : w.heap.size ≤ base) (ok' : x.Ok w8 g s) (hx : x.B = []) (hin : winIn b k x.n = true) (hf : ∀ a, x.F a → w.heap.size ≤ a ∧ a < base)
    (lo : ∀ (j : Nat) (y : GenS), j < i → G[j]? = some y → y.n < x.n) (up2 : ∀ (j : Nat) (y : GenS), i ≤ j → G[j]? = some y → x.n < y.n) :
    RefYA (w8.setCell ⟨p, 3, none⟩ (.slice A8 (n + 1) c8)) (fun a => F a ∨ x.F a ∨ (Value.slice A8 (n + 1) c8).ownBlock = some a) p g s k b L wb A8 (n + 1) c8 (G.take i ++ [x] ++ G.drop i) := by
  have t : Turned (fun a => a = p) w8 (w8.setCell ⟨p, 3, none⟩ (.slice A8 (n + 1) c8)) := Turned.set (F := fun a => a = p) w8 ⟨p, 3, none⟩ _ rfl
  have hG : i ≤ G.length := by rw [h.len]; exact hi
  have hpl := h.lt p h.fp
  have hwl := h.lt wb h.fw
  have own : ∀ a, (Value.slice A8 (n + 1) c8).ownBlock = some a → base ≤ a := ho.rowLe
  have get := fun (j : Nat) (y : GenS) (hy : (G.take i ++ [x] ++ G.drop i)[j]? = some y) => ins_get hG hy
  have mem : ∀ y ∈ G.take i ++ [x] ++ G.drop i, y = x ∨ y ∈ G := fun y hy => by
    obtain ⟨j, hj⟩ := List.getElem?_of_mem hy
    rcases get j y hj with ⟨_, e⟩ | ⟨_, e⟩ | ⟨_, e⟩
    · exact Or.inl e
    · exact Or.inr (List.mem_of_getElem? e)
    · exact Or.inr (List.mem_of_getElem? e)
  have hxm : x ∈ G.take i ++ [x] ++ G.drop i := by simp
  refine ⟨?_, (h.win.keep kp).turned t fun e => h.ne.1 e.symm, (ho.turned t fun a ha e => by have := own a ha; omega).lower (Nat.zero_le _), fun y hy => ?_, fun j l y z hjl hy hz => ?_, fun y hy => ?_, fun j l y z hjl hy hz a ha hb2 => ?_, fun y hy a ha => ?_, ⟨h.ne.1, fun a ha => by have := own a ha; exact ⟨by omega, by omega⟩⟩, Or.inl h.fp, Or.inl h.fw, fun a ha => Or.inr (Or.inr ha), fun y hy a ha => ?_, fun a ha => ?_, h.g1, h.g2, h.s1, h.s2, fun y hy => ?_, fun m hm => ?_⟩
  · rw [bset ((kp.block p hpl).trans h.block)]; rfl
  · rcases mem y hy with rfl | hy
    · exact ok'.turned t fun a ha e => by have := hf a ha; omega
    · exact ((h.ok y hy).turned (Turned.of_keep (F := fun _ => False) kp) fun _ _ e => e).turned t fun a ha e => (h.off y hy a ha).1 e
  · rcases get j y hy with ⟨rfl, rfl⟩ | ⟨hj, hy2⟩ | ⟨hj, hy2⟩
    · rcases get l z hz with ⟨rfl, rfl⟩ | ⟨hl, hz2⟩ | ⟨hl, hz2⟩
      · omega
      · omega
      · exact up2 (l - 1) z (by omega) hz2
    · rcases get l z hz with ⟨rfl, rfl⟩ | ⟨hl, hz2⟩ | ⟨hl, hz2⟩
      · exact lo j y hj hy2
      · exact h.up j l y z hjl hy2 hz2
      · exact h.up j (l - 1) y z (by omega) hy2 hz2
    · rcases get l z hz with ⟨rfl, rfl⟩ | ⟨hl, hz2⟩ | ⟨hl, hz2⟩
      · omega
      · omega
      · exact h.up (j - 1) (l - 1) y z (by omega) hy2 hz2
  · rcases mem y hy with rfl | hy
    · exact hin
    · exact h.inw y hy
  · rcases get j y hy with ⟨rfl, rfl⟩ | ⟨hj, hy2⟩ | ⟨hj, hy2⟩
    · rcases get l z hz with ⟨rfl, rfl⟩ | ⟨hl, hz2⟩ | ⟨hl, hz2⟩
      · omega
      · have := h.lt a (h.fx z (List.mem_of_getElem? hz2) a hb2); have := hf a ha; omega
      · have := h.lt a (h.fx z (List.mem_of_getElem? hz2) a hb2); have := hf a ha; omega
    · rcases get l z hz with ⟨rfl, rfl⟩ | ⟨hl, hz2⟩ | ⟨hl, hz2⟩
      · have := h.lt a (h.fx y (List.mem_of_getElem? hy2) a ha); have := hf a hb2; omega
      · exact h.ap j l y z hjl hy2 hz2 a ha hb2
      · exact h.ap j (l - 1) y z (by omega) hy2 hz2 a ha hb2
    · rcases get l z hz with ⟨rfl, rfl⟩ | ⟨hl, hz2⟩ | ⟨hl, hz2⟩
      · have := h.lt a (h.fx y (List.mem_of_getElem? hy2) a ha); have := hf a hb2; omega
      · exact h.ap (j - 1) l y z (by omega) hy2 hz2 a ha hb2
      · exact h.ap (j - 1) (l - 1) y z (by omega) hy2 hz2 a ha hb2
  · rcases mem y hy with rfl | hy
    · have h1 := hf a ha
      exact ⟨by omega, by omega, fun e => by have := own a e; omega⟩
    · have h1 := h.off y hy a ha
      have h2 := h.lt a (h.fx y hy a ha)
      exact ⟨h1.1, h1.2.1, fun e => by have := own a e; omega⟩
  · rcases mem y hy with rfl | hy
    · exact Or.inr (Or.inl ha)
    · exact Or.inl (h.fx y hy a ha)
  · have hs := t.size
    rcases ha with ha | ha | ha
    · exact Nat.lt_of_lt_of_le (h.lt a ha) (Nat.le_trans kp.size hs)
    · exact Nat.lt_of_lt_of_le (ok'.lt a ha) hs
    · exact Nat.lt_of_lt_of_le (World.ownsRow.lt ho a ha).2 hs
  · rcases mem y hy with rfl | hy
    · rw [hx]
      refine (h.no y.n fun z hz e => ?_).symm
      obtain ⟨j, hj⟩ := List.getElem?_of_mem hz
      rcases Nat.lt_or_ge j i with e2 | e2
      · have := lo j z e2 hj; omega
      · have := up2 j z e2 hj; omega
    · exact h.l y hy
  · exact h.no m fun y hy => hm y (ins_old hy)
end RefYA
theorem RefY.keep (h : RefY w F p g s k b L) (t : Keep w w') : RefY w' F p g s k b L := by
  obtain ⟨wb, A, n, c, G, h⟩ := h; exact (h.keep t).r
theorem RefY.turned (h : RefY w F p g s k b L) (t : Turned H w w') (hd : ∀ a, F a → ¬ H a) : RefY w' F p g s k b L := by
  obtain ⟨wb, A, n, c, G, h⟩ := h; exact (h.turned t hd).r
theorem RefY.lt (h : RefY w F p g s k b L) : ∀ a, F a → a < w.heap.size := by
  obtain ⟨wb, A, n, c, G, h⟩ := h; exact h.lt
end
end Go.Proofs.YtcjjhblgejkkeaaGreat
/- The document's own relay: New, the basis of a generation. -/
namespace Go.Proofs.YtcjjhblgejkkeaaGreat
open Go.RowKit Lin
set_option linter.unusedVariables false
set_option linter.unusedSimpArgs false
set_option maxRecDepth 100000 in
theorem rynew_in (g s k : Nat) (h1 : 1 ≤ g) (h2 : g ≤ 255) (h3 : 1 ≤ s) (h4 : s ≤ 65535) (h5 : 1 ≤ k) (h6 : k ≤ 16) (w : World) :
    Calls Tryz.prog 8 #[.int .i64 (g : Int), .int .i64 (s : Int), .int .i64 (k : Int)] w fun e w' => ∃ p F, e = .returned (.tuple #[.pointer (some ⟨p, 0, none⟩), .int .i64 0]) ∧ RefY w' F p g s k 0 (fun _ => []) ∧ (∀ a, F a → w.heap.size ≤ a) ∧ Keep w w' := by
  go_enter Tryz.func8, Tryz.ntmps8
  go_wp2_with fail
  refine (rnew_in k h5 h6 _).mono ?_
  rintro e w1 ⟨rfl, hW, k1⟩
  have HW := Lib.hid hW
  have HK1 := Lib.hid k1
  clear hW k1
  go_wp2_with fail
  refine (rpnew_in g s h1 h2 h3 h4 _).mono ?_
  rintro e w2 ⟨b1, bi, br, Fb, rfl, -, -, k2⟩
  have HK2 := Lib.hid (HK1.out.trans k2)
  have HW2 := Lib.hid (HW.out.keep k2)
  have HLT : Hid (w.heap.size < w2.heap.size) := Nat.lt_of_lt_of_le HW.out.lt k2.size
  clear k2
  go_wp2_with fail
  go_ret2
  have ka : Keep w2 (w2.alloc (.cells #[.int .i64 (g : Int), .int .i64 (s : Int), .pointer (some ⟨w.heap.size, 0, none⟩), .slice none 0 0] 67)) := (Keep.refl w2).alloc _ _
  have hs : (w2.alloc (.cells #[.int .i64 (g : Int), .int .i64 (s : Int), .pointer (some ⟨w.heap.size, 0, none⟩), .slice none 0 0] 67)).heap.size = w2.heap.size + 1 := by simp
  refine ⟨w2.heap.size, fun a => a = w2.heap.size ∨ a = w.heap.size, rfl, RefYA.r (wb := w.heap.size) (A := none) (n := 0) (c := 0) (G := []) ⟨heap_alloc_new w2 _, HW2.out.keep ka, OwnGn.none_ _ _, fun x hx => by simp at hx, fun i j x y _ hx => by simp at hx, fun x hx => by simp at hx, fun i j x y _ hx => by simp at hx, fun x hx => by simp at hx, ⟨by have := HLT.out; omega, fun a ha => by simp [Value.ownBlock] at ha⟩, Or.inl rfl, Or.inr rfl, fun a ha => by simp [Value.ownBlock] at ha, fun x hx => by simp at hx, fun a ha => ?_, h1, h2, h3, h4, fun x hx => by simp at hx, fun m hm => rfl⟩, fun a ha => ?_, HK2.out.trans ka⟩
  · have := HLT.out
    rw [hs]
    rcases ha with ha | ha <;> omega
  · have := HLT.out
    rcases ha with ha | ha <;> omega
set_option maxRecDepth 100000 in
theorem rynew_out (g s k : Int) (h : ¬ (1 ≤ g ∧ g ≤ 255 ∧ 1 ≤ s ∧ s ≤ 65535 ∧ 1 ≤ k ∧ k ≤ 16)) (w : World) :
    Calls Tryz.prog 8 #[.int .i64 g, .int .i64 s, .int .i64 k] w fun e w' => e = .returned (.tuple #[.pointer none, .int .i64 1]) ∧ Keep w w' := by
  by_cases hk : 1 ≤ k ∧ k ≤ 16
  · obtain ⟨k', rfl⟩ := Int.eq_ofNat_of_zero_le (show 0 ≤ k by omega)
    have hh := fun w => rpnew_out g s (by omega) w
    have HN := Lib.hid (rnew_in k' (by omega) (by omega) w)
    have HH := Lib.hid hh
    clear hh
    go_enter Tryz.func8, Tryz.ntmps8
    go_wp2_with fail
    refine HN.out.mono ?_
    rintro e w1 ⟨rfl, hW, k1⟩
    have HK1 := Lib.hid k1
    clear hW k1
    go_wp2_with fail
    refine (HH.out w1).mono ?_
    rintro e w2 ⟨rfl, k2⟩
    have HK2 := Lib.hid (HK1.out.trans k2)
    clear k2
    go_wp2_with fail
    go_ret2
    exact ⟨rfl, HK2.out⟩
  · have HN := Lib.hid (rnew_out k (by omega) w)
    by_cases hb : g < 1 ∨ 255 < g ∨ s < 1 ∨ 65535 < s
    · have HB := Lib.hid (rpnew_out g s hb w)
      go_enter Tryz.func8, Tryz.ntmps8
      go_wp2_with fail
      refine HN.out.mono ?_
      rintro e w1 ⟨rfl, rfl⟩
      go_wp2_with fail
      refine HB.out.mono ?_
      rintro e w2 ⟨rfl, k2⟩
      have HK2 := Lib.hid k2
      clear k2
      go_wp2_with fail
      go_ret2
      exact ⟨rfl, HK2.out⟩
    · obtain ⟨g', rfl⟩ := Int.eq_ofNat_of_zero_le (show 0 ≤ g by omega)
      obtain ⟨s', rfl⟩ := Int.eq_ofNat_of_zero_le (show 0 ≤ s by omega)
      have HB := Lib.hid (rpnew_in g' s' (by omega) (by omega) (by omega) (by omega) w)
      go_enter Tryz.func8, Tryz.ntmps8
      go_wp2_with fail
      refine HN.out.mono ?_
      rintro e w1 ⟨rfl, rfl⟩
      go_wp2_with fail
      refine HB.out.mono ?_
      rintro e w2 ⟨b1, bi, br, Fb, rfl, -, -, k2⟩
      have HK2 := Lib.hid k2
      clear k2
      go_wp2_with fail
      go_ret2
      exact ⟨rfl, HK2.out⟩
section
variable {w : World} {F : Nat → Prop} {p g s k b wb n c : Nat} {L : Nat → List (List Nat)} {A : Option Addr} {G : List GenS}
theorem yat_out (h : RefYA w F p g s k b L wb A n c G) (m : Nat) (hin : winIn b k m = false) :
    Calls Tryz.prog 50 #[.pointer (some ⟨p, 0, none⟩), .int .u64 (m : Int)] w fun e w' => e = .returned (.pointer none) ∧ Keep w w' := by
  have c2 := h.c2
  have hi := rin_any m h.win
  rw [hin] at hi
  have HI := Lib.hid hi
  clear hi
  go_enter Tryz.func50, Tryz.ntmps50
  go_wp2_with fail
  refine HI.out.mono ?_
  rintro e w1 ⟨rfl, k1⟩
  have HK := Lib.hid k1
  clear k1
  go_wp2_with fail
  go_ret
  exact ⟨rfl, HK.out⟩
set_option maxRecDepth 100000 in
set_option maxHeartbeats 4000000 in
/-- The basis of a generation in the window: that which there is, or a new one. -/
theorem yat_in (h : RefYA w F p g s k b L wb A n c G) (m : Nat) (hin : winIn b k m = true) :
    Calls Tryz.prog 50 #[.pointer (some ⟨p, 0, none⟩), .int .u64 (m : Int)] w fun e w' => ∃ (F' : Nat → Prop) (A' : Option Addr) (n' c' : Nat) (G' : List GenS) (i : Nat) (x : GenS), e = .returned (.pointer (some ⟨x.q, 0, none⟩)) ∧ RefYA w' F' p g s k b L wb A' n' c' G' ∧ G'[i]? = some x ∧ x.n = m ∧ (∀ a, F' a → F a ∨ w.heap.size ≤ a) ∧ Turned F w w' := by
  have c2 := h.c2
  have hi := rin_any m h.win
  rw [hin] at hi
  have HI := Lib.hid hi
  have H := Lib.hid h
  have HG := Lib.hid (And.intro h.g1 (And.intro h.g2 (And.intro h.s1 h.s2)))
  have hn16 : n ≤ 16 := Nat.le_trans h.short h.win.high
  have HIN := Lib.hid hin
  clear hi h
  go_enter Tryz.func50, Tryz.ntmps50
  go_wp2_with fail
  refine HI.out.mono ?_
  rintro e w1 ⟨rfl, k1⟩
  have HY := Lib.hid (H.out.keep k1)
  have HKO := Lib.hid k1
  have c3 := HY.out.c3
  clear k1 HI c2
  obtain ⟨wo, rfl⟩ : ∃ wo, wo = w1 := ⟨_, rfl⟩
  go_wp2_with fail
  go_loopw [5] (fun iv wz => ∃ i : Nat, i ≤ n ∧ iv = .int .i64 (i : Int) ∧ wz = wo ∧ ∀ (j : Nat) (x : GenS), j < i → G[j]? = some x → x.n < m) (fun iv _ => n - (intOf iv).toNat)
  case atStart => exact ⟨0, by omega, rfl, rfl, fun j x hj => by omega⟩
  case round =>
    obtain ⟨i, hi, rfl, hwo, hlo⟩ := hrel
    obtain rfl : wr = wo := hwo
    have HLO := Lib.hid hlo
    clear hlo
    have c3 := HY.out.c3
    have e0 : (0 : Int) ≤ (i : Int) := Int.natCast_nonneg _
    by_cases hlt : i < n
    · have e1 : (i : Int) < (n : Int) := by omega
      have e1' : decide ((i : Int) < (n : Int)) = true := decide_eq_true e1
      obtain ⟨bb, off, y, rfl, hb1, hb2, hy, hc1, hc2⟩ := (HY.out.own.insO).at_ hlt
      obtain ⟨x, hx, rfl⟩ : ∃ x, G[i]? = some x ∧ y = (x.n, x.q) := by
        unfold gnL at hy
        rw [List.getElem?_map] at hy
        cases hg : G[i]? with
        | none => rw [hg] at hy; cases hy
        | some x => rw [hg] at hy; injection hy with hy; exact ⟨x, rfl, hy.symm⟩
      have HX := Lib.hid hx
      obtain ⟨xn, hxn⟩ : ∃ v, x.n = v := ⟨_, rfl⟩
      obtain ⟨xq, hxq⟩ : ∃ v, x.q = v := ⟨_, rfl⟩
      replace hc1 : wr.cell? ⟨bb, off + i * 2, none⟩ = some (.int .u64 (xn : Int)) := by rw [← hxn]; exact hc1
      replace hc2 : wr.cell? ⟨bb, off + i * 2 + 1, none⟩ = some (.pointer (some ⟨xq, 0, none⟩)) := by rw [← hxq]; exact hc2
      have HXN := Lib.hid hxn
      have HXQ := Lib.hid hxq
      clear hb1 hb2 hy hx hxn hxq
      by_cases hl : xn < m
      · have g1 : (xn : Int) < (m : Int) := by omega
        have g2 : decide ((xn : Int) < (m : Int)) = true := decide_eq_true g1
        go_wp2_with fail
        go_roundw
        case rel => exact ⟨i + 1, by omega, by go_num, by first | rfl | trivial, fun j y hj hy => by
          by_cases e : j = i
          · subst e
            rw [HX.out] at hy
            injection hy with hy
            subst hy
            have := HXN.out; omega
          · exact HLO.out j y (by omega) hy⟩
        case measure => simp [intOf]; omega
      · have g1 : ¬ (xn : Int) < (m : Int) := by omega
        have g2 : decide ((xn : Int) < (m : Int)) = false := decide_eq_false g1
        by_cases he : xn = m
        · obtain rfl : xn = m := he
          have g3 : ((xn : Int) == (xn : Int)) = true := by simp
          go_wp2_with fail
          go_ret
          exact ⟨F, _, n, c, G, i, x, by rw [HXQ.out]; rfl, HY.out, HX.out, HXN.out, fun a ha => Or.inl ha, Turned.of_keep HKO.out⟩
        · have g3 : ((xn : Int) == (m : Int)) = false := by rw [beq_eq_false_iff_ne]; omega
          have g4 : decide ((xn : Int) = (m : Int)) = false := decide_eq_false (by omega)
          have HHI : Hid (∀ (j : Nat) (y : GenS), i ≤ j → G[j]? = some y → m < y.n) := fun j y hj hy => by
            have h0 := HXN.out
            rcases Nat.lt_or_ge i j with e | e
            · have := HY.out.up i j x y e HX.out hy; omega
            · obtain rfl : j = i := by omega
              rw [HX.out] at hy
              injection hy with hy
              subst hy
              omega
          clear HX HXN HXQ
          go_upto_region 8 with fail
          clear g1 g2 g3 g4 hl he hc1 hc2
          refine wp_region_noPanic ?_
          refine wp_region_held_drew (S := fun wz => wz.cell? ⟨p, 0, none⟩ = some (.int .i64 (g : Int)) ∧ wz.cell? ⟨p, 1, none⟩ = some (.int .i64 (s : Int))) (by kernel_rfl) ⟨HY.out.c0, HY.out.c1⟩ (fun hHeld => ?_)
          refine wpAnyH_take (i := 0) (v := ?_) rfl (by kernel_rfl) (by kernel_rfl) (by kernel_rfl) (fun _ _ _ h => h) (Or.inl ⟨by rfl, ?_⟩) hHeld ?_
          rotate_left
          · intro wq hSw
            go_simp
            all_goals with_reducible rfl
          try simp only [Act.put, List.getElem_toArray, List.getElem_cons_succ, List.getElem_cons_zero, List.setIfInBounds_toArray, List.set_cons_zero, List.set_cons_succ]
          refine wpAnyH_take (i := 1) (v := ?_) rfl (by kernel_rfl) (by kernel_rfl) (by kernel_rfl) (fun _ _ _ h => h) (Or.inl ⟨by rfl, ?_⟩) hHeld ?_
          rotate_left
          · intro wq hSw
            go_simp
            all_goals with_reducible rfl
          try simp only [Act.put, List.getElem_toArray, List.getElem_cons_succ, List.getElem_cons_zero, List.setIfInBounds_toArray, List.set_cons_zero, List.set_cons_succ]
          refine wpAnyH_take (i := 2) (v := ?_) rfl (by kernel_rfl) (by kernel_rfl) (by kernel_rfl) (fun _ _ _ h => h) (Or.inl ⟨by rfl, ?_⟩) hHeld ?_
          rotate_left
          · intro wq hSw
            go_simp
            all_goals with_reducible rfl
          try simp only [Act.put, List.getElem_toArray, List.getElem_cons_succ, List.getElem_cons_zero, List.setIfInBounds_toArray, List.set_cons_zero, List.set_cons_succ]
          refine wpAnyH_take (i := 3) (v := ?_) rfl (by kernel_rfl) (by kernel_rfl) (by kernel_rfl) (fun _ _ _ h => h) (Or.inl ⟨by rfl, ?_⟩) hHeld ?_
          rotate_left
          · intro wq hSw
            have q0 := hSw.1
            go_simp
            all_goals with_reducible rfl
          try simp only [Act.put, List.getElem_toArray, List.getElem_cons_succ, List.getElem_cons_zero, List.setIfInBounds_toArray, List.set_cons_zero, List.set_cons_succ]
          refine wpAnyH_take (i := 4) (v := ?_) rfl (by kernel_rfl) (by kernel_rfl) (by kernel_rfl) (fun _ _ _ h => h) (Or.inl ⟨by rfl, ?_⟩) hHeld ?_
          rotate_left
          · intro wq hSw
            go_simp
            all_goals with_reducible rfl
          try simp only [Act.put, List.getElem_toArray, List.getElem_cons_succ, List.getElem_cons_zero, List.setIfInBounds_toArray, List.set_cons_zero, List.set_cons_succ]
          refine wpAnyH_take (i := 5) (v := ?_) rfl (by kernel_rfl) (by kernel_rfl) (by kernel_rfl) (fun _ _ _ h => h) (Or.inl ⟨by rfl, ?_⟩) hHeld ?_
          rotate_left
          · intro wq hSw
            go_simp
            all_goals with_reducible rfl
          try simp only [Act.put, List.getElem_toArray, List.getElem_cons_succ, List.getElem_cons_zero, List.setIfInBounds_toArray, List.set_cons_zero, List.set_cons_succ]
          refine wpAnyH_take (i := 6) (v := ?_) rfl (by kernel_rfl) (by kernel_rfl) (by kernel_rfl) (fun _ _ _ h => h) (Or.inl ⟨by rfl, ?_⟩) hHeld ?_
          rotate_left
          · intro wq hSw
            go_simp
            all_goals with_reducible rfl
          try simp only [Act.put, List.getElem_toArray, List.getElem_cons_succ, List.getElem_cons_zero, List.setIfInBounds_toArray, List.set_cons_zero, List.set_cons_succ]
          refine wpAnyH_take (i := 7) (v := ?_) rfl (by kernel_rfl) (by kernel_rfl) (by kernel_rfl) (fun _ _ _ h => h) (Or.inl ⟨by rfl, ?_⟩) hHeld ?_
          rotate_left
          · intro wq hSw
            have q0 := hSw.2
            go_simp
            all_goals with_reducible rfl
          try simp only [Act.put, List.getElem_toArray, List.getElem_cons_succ, List.getElem_cons_zero, List.setIfInBounds_toArray, List.set_cons_zero, List.set_cons_succ]
          refine wpAnyH_ready (rs := [8]) (by kernel_rfl) (by simp) ?_
          refine AllReadyH.cons rfl (fun K hK => ?_) AllReadyH.nil
          go_simp
          refine (rpnew_in g s HG.out.1 HG.out.2.1 HG.out.2.2.1 HG.out.2.2.2 _).mono ?_
          rintro e w5 ⟨q5, bi, br, F5, rfl, r5, f5, k5⟩
          have k5' : Keep wr w5 := (Keep.drew (Keep.refl wr)).trans k5
          have HY5 := Lib.hid (HY.out.keep k5')
          have HR5 := Lib.hid r5
          have HF5 : Hid (∀ a, F5 a → wr.heap.size ≤ a) := f5
          have HK5 := Lib.hid k5'
          clear r5 f5 k5 k5'
          refine hK.out _ _ ⟨HY5.out.c0, HY5.out.c1⟩ (fun hHeld => ?_)
          clear hK K
          try simp only [Act.put, List.getElem_toArray, List.getElem_cons_succ, List.getElem_cons_zero, List.setIfInBounds_toArray, List.set_cons_zero, List.set_cons_succ]
          refine wpAnyH_take (i := 9) (v := ?_) rfl (by kernel_rfl) (by kernel_rfl) (by kernel_rfl) (fun _ _ _ h => h) (Or.inl ⟨by rfl, ?_⟩) hHeld ?_
          rotate_left
          · intro wq hSw
            go_simp
            all_goals with_reducible rfl
          try simp only [Act.put, List.getElem_toArray, List.getElem_cons_succ, List.getElem_cons_zero, List.setIfInBounds_toArray, List.set_cons_zero, List.set_cons_succ]
          refine wpAnyH_take (i := 10) (v := ?_) rfl (by kernel_rfl) (by kernel_rfl) (by kernel_rfl) (fun _ _ _ h => h) (Or.inl ⟨by rfl, ?_⟩) hHeld ?_
          rotate_left
          · intro wq hSw
            go_simp
            all_goals with_reducible rfl
          try simp only [Act.put, List.getElem_toArray, List.getElem_cons_succ, List.getElem_cons_zero, List.setIfInBounds_toArray, List.set_cons_zero, List.set_cons_succ]
          refine wpAnyH_take (i := 11) (v := ?_) rfl (by kernel_rfl) (by kernel_rfl) (by kernel_rfl) (fun _ _ _ h => h) (Or.inl ⟨by rfl, ?_⟩) hHeld ?_
          rotate_left
          · intro wq hSw
            go_simp
            all_goals with_reducible rfl
          try simp only [Act.put, List.getElem_toArray, List.getElem_cons_succ, List.getElem_cons_zero, List.setIfInBounds_toArray, List.set_cons_zero, List.set_cons_succ]
          refine wpAnyH_take (i := 12) (v := ?_) rfl (by kernel_rfl) (by kernel_rfl) (by kernel_rfl) (fun _ _ _ h => h) (Or.inl ⟨by rfl, ?_⟩) hHeld ?_
          rotate_left
          · intro wq hSw
            go_simp
            all_goals with_reducible rfl
          try simp only [Act.put, List.getElem_toArray, List.getElem_cons_succ, List.getElem_cons_zero, List.setIfInBounds_toArray, List.set_cons_zero, List.set_cons_succ]
          refine wpAnyH_take (i := 13) (v := ?_) rfl (by kernel_rfl) (by kernel_rfl) (by kernel_rfl) (fun _ _ _ h => h) (Or.inl ⟨by rfl, ?_⟩) hHeld ?_
          rotate_left
          · intro wq hSw
            go_simp
            all_goals with_reducible rfl
          try simp only [Act.put, List.getElem_toArray, List.getElem_cons_succ, List.getElem_cons_zero, List.setIfInBounds_toArray, List.set_cons_zero, List.set_cons_succ]
          refine wpAnyH_done (by kernel_rfl) ?_ _
          refine NoPanic.normal ?_
          clear hHeld
          obtain ⟨w6, rfl⟩ : ∃ x, x = w5 := ⟨_, rfl⟩
          have c36 := HY5.out.c3
          have hcap := HY5.out.own.cap
          have htake := fun (w : World) => run_slice_h (P := Tryz.prog) (w := w) 65 (some ⟨bb, off, none⟩) n c Tryz.underlying65 .i64 (i : Int) (by omega) (by omega)
          have hdrop : ∀ w, (Instr.slice 65 (.slice (some ⟨bb, off, none⟩) n c) (some (.int .i64 (i : Int))) none none).run Tryz.prog w = .ok (.slice (dropG (some ⟨bb, off, none⟩) c i) (n - i) (c - i)) w := fun w => run_drop_gn (t := 65) (by kernel_rfl) (by kernel_rfl) n c i _ (by omega) w
          rw [Int.toNat_natCast] at htake
          have HGN := Lib.hid HY5.out.own.insO
          have HCAP := Lib.hid hcap
          clear hcap
          go_wp2_with (at_builtin; refine wpList_append_gns rfl _ _ 65 rfl (Nat.zero_add i) Tryz.underlying65 rfl (OwnGn.none_ w6 w6.heap.size) rfl (HGN.out.take (k := i) (by omega)).1 (HGN.out.take (k := i) (by omega)).cells (by omega) (Nat.le_refl _) ?_)
          intro A7 c7 w7 o7 g7 b7
          have HK7 : Hid (Keep w6 w7) := (Keep.refl w6).grown g7 fun k hk => by simp [Value.ownBlock] at hk
          have HO7 := Lib.hid o7
          clear o7 g7 b7 c36 htake
          go_wp2_with (at_builtin; refine wpList_append_gns rfl _ _ 65 rfl (m := 1) (news := [(m, q5)]) (Eq.refl (i + 1)) Tryz.underlying65 rfl (HO7.out.alloc _) rfl rfl (fun _ => ⟨w7.heap.size, 0, rfl, fun j p hj => by
              have hj0 : j = 0 := by
                rcases j with _ | j
                · rfl
                · simp at hj
              subst hj0
              injection hj with hj
              subst hj
              exact ⟨cell_of_row _ _ _ _ _ _ (heap_alloc_new _ _), cell_of_row _ _ _ _ _ _ (heap_alloc_new _ _)⟩⟩) (by omega) (by have := HK7.out.size; simp; omega) ?_)
          intro A8 c8 w8 o8 g8 b8
          have HK8 : Hid (Keep w6 w8) := (HK7.out.trans ((Keep.refl w7).alloc _ _)).grown g8 fun k hk => HO7.out.rowLe k hk
          have HO8 := Lib.hid o8
          have c38 := (HY5.out.keep HK8.out).c3
          have hdr := (HGN.out.keep HK8.out).drop (k := i) HCAP.out
          have HDR := Lib.hid hdr
          clear o8 g8 b8 hdr
          go_wp2_with (at_builtin; refine wpList_append_gns rfl _ _ 65 rfl (nm := n + 1) (show i + 1 + (n - i) = n + 1 by omega) Tryz.underlying65 rfl HO8.out rfl HDR.out.1 HDR.out.cells (by omega) (HK8.out.size) ?_)
          intro A9 c9 w9 o9 g9 b9
          have HK9 : Hid (Keep w6 w9) := HK8.out.grown g9 fun k hk => HO8.out.rowLe k hk
          have HO9 := Lib.hid o9
          have c39 := (HY5.out.keep HK9.out).c3
          have hfr := (HY5.out.keep HK9.out).free 3
          clear o9 g9 b9 c38 hdrop
          go_wp2_with fail
          go_ret
          have h9 : OwnGn w9 w6.heap.size A9 (n + 1) c9 (gnL (G.take i ++ [⟨m, q5, F5, []⟩] ++ G.drop i)) := by
            rw [gnL_ins]
            simpa using HO9.out
          have kall := HK5.out.trans HK9.out
          have hins := HY.out.insert (x := ⟨m, q5, F5, []⟩) kall (by omega) h9 HK5.out.size ⟨Bas.nil g s, bi, br, _, _, HR5.out.keep HK9.out, Slots.none g s _⟩ rfl HIN.out (fun a ha => ⟨HF5.out a ha, HR5.out.lt a ha⟩) HLO.out HHI.out
          exact ⟨_, _, _, _, _, i, ⟨m, q5, F5, []⟩, rfl, hins, ins_at (by rw [HY.out.len]; omega), rfl, fun a ha => by
            have h1 := HKO.out.size
            have h2 := HK5.out.size
            rcases ha with ha | ha | ha
            · exact Or.inl ha
            · exact Or.inr (Nat.le_trans h1 (HF5.out a ha))
            · exact Or.inr (Nat.le_trans h1 (Nat.le_trans h2 (h9.rowLe a ha))), (Turned.of_keep (F := F) (HKO.out.trans kall)).trans (Turned.set (F := F) w9 ⟨p, 3, none⟩ _ HY.out.fp) fun j e => Or.inl e⟩
    · have HHI : Hid (∀ (j : Nat) (y : GenS), i ≤ j → G[j]? = some y → m < y.n) := fun j y hj hy => by
        have h1 := (List.getElem?_eq_some_iff.1 hy).1
        have h2 := HY.out.len
        omega
      have e1 : ¬ (i : Int) < (n : Int) := by omega
      have e1' : decide ((i : Int) < (n : Int)) = false := decide_eq_false e1
      go_upto_region 8 with fail
      clear e1 e1' hlt
      refine wp_region_noPanic ?_
      refine wp_region_held_drew (S := fun wz => wz.cell? ⟨p, 0, none⟩ = some (.int .i64 (g : Int)) ∧ wz.cell? ⟨p, 1, none⟩ = some (.int .i64 (s : Int))) (by kernel_rfl) ⟨HY.out.c0, HY.out.c1⟩ (fun hHeld => ?_)
      refine wpAnyH_take (i := 0) (v := ?_) rfl (by kernel_rfl) (by kernel_rfl) (by kernel_rfl) (fun _ _ _ h => h) (Or.inl ⟨by rfl, ?_⟩) hHeld ?_
      rotate_left
      · intro wq hSw
        go_simp
        all_goals with_reducible rfl
      try simp only [Act.put, List.getElem_toArray, List.getElem_cons_succ, List.getElem_cons_zero, List.setIfInBounds_toArray, List.set_cons_zero, List.set_cons_succ]
      refine wpAnyH_take (i := 1) (v := ?_) rfl (by kernel_rfl) (by kernel_rfl) (by kernel_rfl) (fun _ _ _ h => h) (Or.inl ⟨by rfl, ?_⟩) hHeld ?_
      rotate_left
      · intro wq hSw
        go_simp
        all_goals with_reducible rfl
      try simp only [Act.put, List.getElem_toArray, List.getElem_cons_succ, List.getElem_cons_zero, List.setIfInBounds_toArray, List.set_cons_zero, List.set_cons_succ]
      refine wpAnyH_take (i := 2) (v := ?_) rfl (by kernel_rfl) (by kernel_rfl) (by kernel_rfl) (fun _ _ _ h => h) (Or.inl ⟨by rfl, ?_⟩) hHeld ?_
      rotate_left
      · intro wq hSw
        go_simp
        all_goals with_reducible rfl
      try simp only [Act.put, List.getElem_toArray, List.getElem_cons_succ, List.getElem_cons_zero, List.setIfInBounds_toArray, List.set_cons_zero, List.set_cons_succ]
      refine wpAnyH_take (i := 3) (v := ?_) rfl (by kernel_rfl) (by kernel_rfl) (by kernel_rfl) (fun _ _ _ h => h) (Or.inl ⟨by rfl, ?_⟩) hHeld ?_
      rotate_left
      · intro wq hSw
        have q0 := hSw.1
        go_simp
        all_goals with_reducible rfl
      try simp only [Act.put, List.getElem_toArray, List.getElem_cons_succ, List.getElem_cons_zero, List.setIfInBounds_toArray, List.set_cons_zero, List.set_cons_succ]
      refine wpAnyH_take (i := 4) (v := ?_) rfl (by kernel_rfl) (by kernel_rfl) (by kernel_rfl) (fun _ _ _ h => h) (Or.inl ⟨by rfl, ?_⟩) hHeld ?_
      rotate_left
      · intro wq hSw
        go_simp
        all_goals with_reducible rfl
      try simp only [Act.put, List.getElem_toArray, List.getElem_cons_succ, List.getElem_cons_zero, List.setIfInBounds_toArray, List.set_cons_zero, List.set_cons_succ]
      refine wpAnyH_take (i := 5) (v := ?_) rfl (by kernel_rfl) (by kernel_rfl) (by kernel_rfl) (fun _ _ _ h => h) (Or.inl ⟨by rfl, ?_⟩) hHeld ?_
      rotate_left
      · intro wq hSw
        go_simp
        all_goals with_reducible rfl
      try simp only [Act.put, List.getElem_toArray, List.getElem_cons_succ, List.getElem_cons_zero, List.setIfInBounds_toArray, List.set_cons_zero, List.set_cons_succ]
      refine wpAnyH_take (i := 6) (v := ?_) rfl (by kernel_rfl) (by kernel_rfl) (by kernel_rfl) (fun _ _ _ h => h) (Or.inl ⟨by rfl, ?_⟩) hHeld ?_
      rotate_left
      · intro wq hSw
        go_simp
        all_goals with_reducible rfl
      try simp only [Act.put, List.getElem_toArray, List.getElem_cons_succ, List.getElem_cons_zero, List.setIfInBounds_toArray, List.set_cons_zero, List.set_cons_succ]
      refine wpAnyH_take (i := 7) (v := ?_) rfl (by kernel_rfl) (by kernel_rfl) (by kernel_rfl) (fun _ _ _ h => h) (Or.inl ⟨by rfl, ?_⟩) hHeld ?_
      rotate_left
      · intro wq hSw
        have q0 := hSw.2
        go_simp
        all_goals with_reducible rfl
      try simp only [Act.put, List.getElem_toArray, List.getElem_cons_succ, List.getElem_cons_zero, List.setIfInBounds_toArray, List.set_cons_zero, List.set_cons_succ]
      refine wpAnyH_ready (rs := [8]) (by kernel_rfl) (by simp) ?_
      refine AllReadyH.cons rfl (fun K hK => ?_) AllReadyH.nil
      go_simp
      refine (rpnew_in g s HG.out.1 HG.out.2.1 HG.out.2.2.1 HG.out.2.2.2 _).mono ?_
      rintro e w5 ⟨q5, bi, br, F5, rfl, r5, f5, k5⟩
      have k5' : Keep wr w5 := (Keep.drew (Keep.refl wr)).trans k5
      have HY5 := Lib.hid (HY.out.keep k5')
      have HR5 := Lib.hid r5
      have HF5 : Hid (∀ a, F5 a → wr.heap.size ≤ a) := f5
      have HK5 := Lib.hid k5'
      clear r5 f5 k5 k5'
      refine hK.out _ _ ⟨HY5.out.c0, HY5.out.c1⟩ (fun hHeld => ?_)
      clear hK K
      try simp only [Act.put, List.getElem_toArray, List.getElem_cons_succ, List.getElem_cons_zero, List.setIfInBounds_toArray, List.set_cons_zero, List.set_cons_succ]
      refine wpAnyH_take (i := 9) (v := ?_) rfl (by kernel_rfl) (by kernel_rfl) (by kernel_rfl) (fun _ _ _ h => h) (Or.inl ⟨by rfl, ?_⟩) hHeld ?_
      rotate_left
      · intro wq hSw
        go_simp
        all_goals with_reducible rfl
      try simp only [Act.put, List.getElem_toArray, List.getElem_cons_succ, List.getElem_cons_zero, List.setIfInBounds_toArray, List.set_cons_zero, List.set_cons_succ]
      refine wpAnyH_take (i := 10) (v := ?_) rfl (by kernel_rfl) (by kernel_rfl) (by kernel_rfl) (fun _ _ _ h => h) (Or.inl ⟨by rfl, ?_⟩) hHeld ?_
      rotate_left
      · intro wq hSw
        go_simp
        all_goals with_reducible rfl
      try simp only [Act.put, List.getElem_toArray, List.getElem_cons_succ, List.getElem_cons_zero, List.setIfInBounds_toArray, List.set_cons_zero, List.set_cons_succ]
      refine wpAnyH_take (i := 11) (v := ?_) rfl (by kernel_rfl) (by kernel_rfl) (by kernel_rfl) (fun _ _ _ h => h) (Or.inl ⟨by rfl, ?_⟩) hHeld ?_
      rotate_left
      · intro wq hSw
        go_simp
        all_goals with_reducible rfl
      try simp only [Act.put, List.getElem_toArray, List.getElem_cons_succ, List.getElem_cons_zero, List.setIfInBounds_toArray, List.set_cons_zero, List.set_cons_succ]
      refine wpAnyH_take (i := 12) (v := ?_) rfl (by kernel_rfl) (by kernel_rfl) (by kernel_rfl) (fun _ _ _ h => h) (Or.inl ⟨by rfl, ?_⟩) hHeld ?_
      rotate_left
      · intro wq hSw
        go_simp
        all_goals with_reducible rfl
      try simp only [Act.put, List.getElem_toArray, List.getElem_cons_succ, List.getElem_cons_zero, List.setIfInBounds_toArray, List.set_cons_zero, List.set_cons_succ]
      refine wpAnyH_take (i := 13) (v := ?_) rfl (by kernel_rfl) (by kernel_rfl) (by kernel_rfl) (fun _ _ _ h => h) (Or.inl ⟨by rfl, ?_⟩) hHeld ?_
      rotate_left
      · intro wq hSw
        go_simp
        all_goals with_reducible rfl
      try simp only [Act.put, List.getElem_toArray, List.getElem_cons_succ, List.getElem_cons_zero, List.setIfInBounds_toArray, List.set_cons_zero, List.set_cons_succ]
      refine wpAnyH_done (by kernel_rfl) ?_ _
      refine NoPanic.normal ?_
      clear hHeld
      obtain ⟨w6, rfl⟩ : ∃ x, x = w5 := ⟨_, rfl⟩
      have c36 := HY5.out.c3
      have hcap := HY5.out.own.cap
      have htake := fun (w : World) => run_slice_h (P := Tryz.prog) (w := w) 65 A n c Tryz.underlying65 .i64 (i : Int) (by omega) (by omega)
      have hdrop : ∀ w, (Instr.slice 65 (.slice A n c) (some (.int .i64 (i : Int))) none none).run Tryz.prog w = .ok (.slice (dropG A c i) (n - i) (c - i)) w := fun w => run_drop_gn (t := 65) (by kernel_rfl) (by kernel_rfl) n c i _ (by omega) w
      rw [Int.toNat_natCast] at htake
      have HGN := Lib.hid HY5.out.own.insO
      have HCAP := Lib.hid hcap
      clear hcap
      go_wp2_with (at_builtin; refine wpList_append_gns rfl _ _ 65 rfl (Nat.zero_add i) Tryz.underlying65 rfl (OwnGn.none_ w6 w6.heap.size) rfl (HGN.out.take (k := i) (by omega)).1 (HGN.out.take (k := i) (by omega)).cells (by omega) (Nat.le_refl _) ?_)
      intro A7 c7 w7 o7 g7 b7
      have HK7 : Hid (Keep w6 w7) := (Keep.refl w6).grown g7 fun k hk => by simp [Value.ownBlock] at hk
      have HO7 := Lib.hid o7
      clear o7 g7 b7 c36 htake
      go_wp2_with (at_builtin; refine wpList_append_gns rfl _ _ 65 rfl (m := 1) (news := [(m, q5)]) (Eq.refl (i + 1)) Tryz.underlying65 rfl (HO7.out.alloc _) rfl rfl (fun _ => ⟨w7.heap.size, 0, rfl, fun j p hj => by
          have hj0 : j = 0 := by
            rcases j with _ | j
            · rfl
            · simp at hj
          subst hj0
          injection hj with hj
          subst hj
          exact ⟨cell_of_row _ _ _ _ _ _ (heap_alloc_new _ _), cell_of_row _ _ _ _ _ _ (heap_alloc_new _ _)⟩⟩) (by omega) (by have := HK7.out.size; simp; omega) ?_)
      intro A8 c8 w8 o8 g8 b8
      have HK8 : Hid (Keep w6 w8) := (HK7.out.trans ((Keep.refl w7).alloc _ _)).grown g8 fun k hk => HO7.out.rowLe k hk
      have HO8 := Lib.hid o8
      have c38 := (HY5.out.keep HK8.out).c3
      have hdr := (HGN.out.keep HK8.out).drop (k := i) HCAP.out
      have HDR := Lib.hid hdr
      clear o8 g8 b8 hdr
      go_wp2_with (at_builtin; refine wpList_append_gns rfl _ _ 65 rfl (nm := n + 1) (show i + 1 + (n - i) = n + 1 by omega) Tryz.underlying65 rfl HO8.out rfl HDR.out.1 HDR.out.cells (by omega) (HK8.out.size) ?_)
      intro A9 c9 w9 o9 g9 b9
      have HK9 : Hid (Keep w6 w9) := HK8.out.grown g9 fun k hk => HO8.out.rowLe k hk
      have HO9 := Lib.hid o9
      have c39 := (HY5.out.keep HK9.out).c3
      have hfr := (HY5.out.keep HK9.out).free 3
      clear o9 g9 b9 c38 hdrop
      go_wp2_with fail
      go_ret
      have h9 : OwnGn w9 w6.heap.size A9 (n + 1) c9 (gnL (G.take i ++ [⟨m, q5, F5, []⟩] ++ G.drop i)) := by
        rw [gnL_ins]
        simpa using HO9.out
      have kall := HK5.out.trans HK9.out
      have hins := HY.out.insert (x := ⟨m, q5, F5, []⟩) kall (by omega) h9 HK5.out.size ⟨Bas.nil g s, bi, br, _, _, HR5.out.keep HK9.out, Slots.none g s _⟩ rfl HIN.out (fun a ha => ⟨HF5.out a ha, HR5.out.lt a ha⟩) HLO.out HHI.out
      exact ⟨_, _, _, _, _, i, ⟨m, q5, F5, []⟩, rfl, hins, ins_at (by rw [HY.out.len]; omega), rfl, fun a ha => by
        have h1 := HKO.out.size
        have h2 := HK5.out.size
        rcases ha with ha | ha | ha
        · exact Or.inl ha
        · exact Or.inr (Nat.le_trans h1 (HF5.out a ha))
        · exact Or.inr (Nat.le_trans h1 (Nat.le_trans h2 (h9.rowLe a ha))), (Turned.of_keep (F := F) (HKO.out.trans kall)).trans (Turned.set (F := F) w9 ⟨p, 3, none⟩ _ HY.out.fp) fun j e => Or.inl e⟩
end
end Go.Proofs.YtcjjhblgejkkeaaGreat
/- The document's own relay: Take, Solve, Rows, Rank, Clear. -/
namespace Go.Proofs.YtcjjhblgejkkeaaGreat
open Go.RowKit Lin
set_option linter.unusedVariables false
set_option linter.unusedSimpArgs false
theorem OwnedRows.lowerY {w : World} {base base' n c : Nat} {e : TypeId} {A : Option Addr} {rs : List RowV} (h : OwnRows w base e A n c rs) (hb : base' ≤ base) : OwnRows w base' e A n c rs := by
  refine ⟨h.1, ?_⟩
  rcases h.2 with h1 | ⟨g, cap, cur, hv, hg, r⟩
  · exact Or.inl h1
  · exact Or.inr ⟨g, cap, cur, hv, Nat.le_trans hb hg, r⟩
theorem OwnSt.lowerY {w : World} {base base' n c : Nat} {A : Option Addr} {ps : List PairV} (h : OwnSt w base A n c ps) (hb : base' ≤ base) : OwnSt w base' A n c ps := by
  refine ⟨h.1, ?_⟩
  rcases h.2 with h1 | ⟨g, cap, cur, hv, hg, r⟩
  · exact Or.inl h1
  · exact Or.inr ⟨g, cap, cur, hv, Nat.le_trans hb hg, r⟩
/-- The relay goes on; what it holds is what it held, or new. -/
def YNext (w w' : World) (F F' : Nat → Prop) (p g s k b : Nat) (L : Nat → List (List Nat)) : Prop := RefY w' F' p g s k b L ∧ (∀ j, F' j → F j ∨ w.heap.size ≤ j) ∧ Turned F w w'
section
variable {w w' w0 : World} {F H F2 : Nat → Prop} {p g s k b wb n c : Nat} {L : Nat → List (List Nat)} {A : Option Addr} {G : List GenS}
theorem YNext.later (h : YNext w w' F F2 p g s k b L) (kp : Keep w' w0) : YNext w w0 F F2 p g s k b L := ⟨h.1.keep kp, h.2.1, h.2.2.trans (Turned.of_keep (F := F) kp) fun j e => Or.inl e⟩
theorem YNext.behind (kp : Keep w0 w) (h : YNext w w' F F2 p g s k b L) : YNext w0 w' F F2 p g s k b L := ⟨h.1, fun j e => (h.2.1 j e).imp id fun e => Nat.le_trans kp.size e, (Turned.of_keep (F := F) kp).trans h.2.2 fun j e => Or.inl e⟩
theorem YNext.stay (h : RefY w F p g s k b L) (kp : Keep w w') : YNext w w' F F p g s k b L := ⟨h.keep kp, fun j e => Or.inl e, Turned.of_keep kp⟩
set_option maxRecDepth 100000 in
theorem ytake_out (h : RefY w F p g s k b L) (m : Nat) (hin : winIn b k m = false) (n1 n2 c1 c2 : Nat) (A1 A2 : Option Addr) :
    Calls Tryz.prog 11 #[.pointer (some ⟨p, 0, none⟩), .int .u64 (m : Int), .agg #[.slice A1 n1 c1, .slice A2 n2 c2]] w fun e w' => e = .returned (.tuple #[.bool false, .int .i64 23]) ∧ Keep w w' := by
  obtain ⟨wb, A, n, c, G, h⟩ := h
  have hat := fun (w0 : World) (kp : Keep w w0) => yat_out (h.keep kp) m hin
  have HAT := Lib.hid hat
  clear hat h
  have HKB : Hid (Keep w (w.alloc (.cells #[.slice A1 n1 c1, .slice A2 n2 c2] 34))) := (Keep.refl w).alloc _ _
  go_enter Tryz.func11, Tryz.ntmps11
  go_wp2_with fail
  refine (HAT.out _ HKB.out).mono ?_
  rintro e w2 ⟨rfl, k2⟩
  have HK2 := Lib.hid (HKB.out.trans k2)
  clear k2 HAT
  go_wp2_with fail
  go_ret2
  exact ⟨rfl, HK2.out⟩
set_option maxRecDepth 100000 in
theorem ysolve_out (h : RefY w F p g s k b L) (m : Nat) (hin : winIn b k m = false) :
    Calls Tryz.prog 16 #[.pointer (some ⟨p, 0, none⟩), .int .u64 (m : Int)] w fun e w' => e = .returned (.tuple #[.slice none 0 0, .int .i64 23]) ∧ Keep w w' := by
  obtain ⟨wb, A, n, c, G, h⟩ := h
  have hat := fun (w0 : World) (kp : Keep w w0) => yat_out (h.keep kp) m hin
  have HAT := Lib.hid hat
  clear hat h
  have HKB : Hid (Keep w w) := Keep.refl w
  go_enter Tryz.func16, Tryz.ntmps16
  go_wp2_with fail
  refine (HAT.out _ HKB.out).mono ?_
  rintro e w2 ⟨rfl, k2⟩
  have HK2 := Lib.hid (HKB.out.trans k2)
  clear k2 HAT
  go_wp2_with fail
  go_ret2
  exact ⟨rfl, HK2.out⟩
set_option maxRecDepth 100000 in
theorem yrows_out (h : RefY w F p g s k b L) (m : Nat) (hin : winIn b k m = false) :
    Calls Tryz.prog 24 #[.pointer (some ⟨p, 0, none⟩), .int .u64 (m : Int)] w fun e w' => e = .returned (.slice none 0 0) ∧ Keep w w' := by
  obtain ⟨wb, A, n, c, G, h⟩ := h
  have hat := fun (w0 : World) (kp : Keep w w0) => yat_out (h.keep kp) m hin
  have HAT := Lib.hid hat
  clear hat h
  have HKB : Hid (Keep w w) := Keep.refl w
  go_enter Tryz.func24, Tryz.ntmps24
  go_wp2_with fail
  refine (HAT.out _ HKB.out).mono ?_
  rintro e w2 ⟨rfl, k2⟩
  have HK2 := Lib.hid (HKB.out.trans k2)
  clear k2 HAT
  go_wp2_with fail
  go_ret
  exact ⟨rfl, HK2.out⟩
set_option maxRecDepth 100000 in
theorem ytake_in (h : RefY w F p g s k b L) (m : Nat) (hin : winIn b k m = true) (q : PairV) (hq : LiesIn w H q.a ∧ LiesIn w H q.b ∧ q.a.n = g ∧ q.b.n = s) (hH : ∀ a, H a → a < w.heap.size ∧ ¬ F a) :
    Calls Tryz.prog 11 #[.pointer (some ⟨p, 0, none⟩), .int .u64 (m : Int), q.agg] w fun e w' => e = .returned (.tuple #[.bool (!decide (inB g s (L m) q.xs)), .int .i64 0]) ∧ ∃ F', YNext w w' F F' p g s k b (upd L m (insB g s (L m) q.xs)) := by
  obtain ⟨⟨A1, n1, c1, z1⟩, ⟨A2, n2, c2, z2⟩⟩ := q
  obtain ⟨wb, A, n, c, G, h⟩ := h
  obtain ⟨r0, r1, rk⟩ := row_block w (.slice A1 n1 c1) (.slice A2 n2 c2)
  obtain ⟨w1, hw1⟩ : ∃ w1, w.alloc (.cells #[.slice A1 n1 c1, .slice A2 n2 c2] 34) = w1 := ⟨_, rfl⟩
  rw [hw1] at r0 r1 rk
  have HAT := Lib.hid (yat_in (h.keep rk) m hin)
  have hnF : ¬ F w.heap.size := fun e => by have := h.lt _ e; omega
  have HC := Lib.hid (And.intro r0 (And.intro r1 (And.intro rk hnF)))
  have HQ := Lib.hid hq
  have HH := Lib.hid hH
  clear h r0 r1 rk hq hH hnF
  show Calls _ _ #[_, _, .agg #[.slice A1 n1 c1, .slice A2 n2 c2]] _ _
  go_enter Tryz.func11, Tryz.ntmps11
  go_wp2_with fail
  refine HAT.out.mono ?_
  rintro e w2 ⟨F2, A2', n2', c2', G2, i2, x2, rfl, y2, hx2, hn2, f2, t2⟩
  have hm2 := List.mem_of_getElem? hx2
  obtain ⟨hb, bi, br, iv, R, h1, h2⟩ := y2.ok x2 hm2
  have hl2 := y2.l x2 hm2
  rw [hn2] at hl2
  rw [hl2] at hb h2
  have q0 := t2.cell HC.out.1 HC.out.2.2.2
  have q1 := t2.cell HC.out.2.1 HC.out.2.2.2
  have lies : ∀ r : RowV, LiesIn w H r → LiesIn w2 H r := fun r hr => (hr.turned (Turned.of_keep (F := fun _ => False) HC.out.2.2.1) fun _ _ e => e).turned t2 fun a ha => (HH.out a ha).2
  have hsz := Nat.le_trans HC.out.2.2.1.size t2.size
  have HI := Lib.hid (rpinsert_in h1 h2 hb ⟨⟨A1, n1, c1, z1⟩, ⟨A2, n2, c2, z2⟩⟩ ⟨lies _ HQ.out.1, lies _ HQ.out.2.1, HQ.out.2.2.1, HQ.out.2.2.2⟩ (fun a ha => Nat.lt_of_lt_of_le (HH.out a ha).1 hsz) y2.g1 y2.g2 y2.s2)
  have HY := Lib.hid (And.intro y2 (And.intro hx2 (And.intro hn2 (And.intro f2 t2))))
  have HB := Lib.hid (And.intro hb h1)
  clear y2 hx2 hn2 f2 t2 hb h1 h2 hl2 hm2 lies hsz HAT
  go_wp2_with fail
  refine HI.out.mono ?_
  rintro e w3 ⟨rfl, F3, iv3, R3, h3, s3, f3, t3⟩
  have hB := insB_bas (row := z1 ++ z2) HB.out.1 (by rw [List.length_append, HQ.out.1.1, HQ.out.2.1.1, HQ.out.2.2.1, HQ.out.2.2.2]) (AllB.append HQ.out.1.2.1 HQ.out.2.1.2.1)
  have hput := HY.out.1.put HY.out.2.1 (F' := F3) (B' := insB g s (L m) (z1 ++ z2)) ⟨hB, bi, br, iv3, R3, h3, s3⟩ f3 t3
  rw [HY.out.2.2.1] at hput
  have HP := Lib.hid hput
  have ft := HY.out.2.2.2.1
  have h12 := HC.out.2.2.1.size
  have fb : ∀ j, F3 j → F j ∨ w.heap.size ≤ j := fun j e => by
    rcases f3 j e with e | e
    · exact (ft j (HY.out.1.fx _ (List.mem_of_getElem? HY.out.2.1) j e)).imp id fun e => Nat.le_trans h12 e
    · exact Or.inr (Nat.le_trans (Nat.le_trans h12 HY.out.2.2.2.2.size) e)
  have tt : Turned F w w3 := ((Turned.of_keep (F := F) HC.out.2.2.1).trans HY.out.2.2.2.2 fun j e => Or.inl e).trans t3 fun j e => (ft j (HY.out.1.fx _ (List.mem_of_getElem? HY.out.2.1) j e)).imp id fun e => Nat.le_trans h12 e
  have HZ : Hid ((∀ j, (F2 j ∨ F3 j) → F j ∨ w.heap.size ≤ j) ∧ Turned F w w3) := ⟨fun j e => by
    rcases e with e | e
    · exact (ft j e).imp id fun e => Nat.le_trans h12 e
    · exact fb j e, tt⟩
  clear hput h3 s3 f3 t3 hB ft h12 fb tt
  go_wp2_with fail
  go_ret2
  exact ⟨rfl, _, HP.out.r, HZ.out.1, HZ.out.2⟩
set_option maxRecDepth 100000 in
theorem ytake_dim (h : RefY w F p g s k b L) (m : Nat) (hin : winIn b k m = true) (n1 n2 c1 c2 : Nat) (A1 A2 : Option Addr) (hd : n1 ≠ g ∨ n2 ≠ s) :
    Calls Tryz.prog 11 #[.pointer (some ⟨p, 0, none⟩), .int .u64 (m : Int), .agg #[.slice A1 n1 c1, .slice A2 n2 c2]] w fun e w' => e = .returned (.tuple #[.bool false, .int .i64 21]) ∧ ∃ F', YNext w w' F F' p g s k b L := by
  obtain ⟨wb, A, n, c, G, h⟩ := h
  obtain ⟨r0, r1, rk⟩ := row_block w (.slice A1 n1 c1) (.slice A2 n2 c2)
  obtain ⟨w1, hw1⟩ : ∃ w1, w.alloc (.cells #[.slice A1 n1 c1, .slice A2 n2 c2] 34) = w1 := ⟨_, rfl⟩
  rw [hw1] at r0 r1 rk
  have HAT := Lib.hid (yat_in (h.keep rk) m hin)
  have hnF : ¬ F w.heap.size := fun e => by have := h.lt _ e; omega
  have HC := Lib.hid (And.intro r0 (And.intro r1 (And.intro rk hnF)))
  clear h r0 r1 rk hnF
  go_enter Tryz.func11, Tryz.ntmps11
  go_wp2_with fail
  refine HAT.out.mono ?_
  rintro e w2 ⟨F2, A2', n2', c2', G2, i2, x2, rfl, y2, hx2, hn2, f2, t2⟩
  have hm2 := List.mem_of_getElem? hx2
  obtain ⟨hb, bi, br, iv, R, h1, h2⟩ := y2.ok x2 hm2
  have hl2 := y2.l x2 hm2
  rw [hn2] at hl2
  rw [hl2] at hb h2
  have q0 := t2.cell HC.out.1 HC.out.2.2.2
  have q1 := t2.cell HC.out.2.1 HC.out.2.2.2
  have HI := Lib.hid (rpinsert_dim h1 n1 n2 c1 c2 A1 A2 hd)
  have HY := Lib.hid (show YNext w1 w2 F F2 p g s k b L from ⟨y2.r, f2, t2⟩)
  clear y2 hx2 hn2 f2 t2 hb h1 h2 hl2 hm2 HAT
  go_wp2_with fail
  refine HI.out.mono ?_
  rintro e w3 ⟨rfl, k3⟩
  have HP := Lib.hid ((HY.out.later k3).behind HC.out.2.2.1)
  clear k3
  go_wp2_with fail
  go_ret2
  exact ⟨rfl, _, HP.out⟩
set_option maxRecDepth 100000 in
theorem ysolve_low (h : RefY w F p g s k b L) (m : Nat) (hin : winIn b k m = true) (hg : (L m).length < g) :
    Calls Tryz.prog 16 #[.pointer (some ⟨p, 0, none⟩), .int .u64 (m : Int)] w fun e w' => e = .returned (.tuple #[.slice none 0 0, .int .i64 24]) ∧ ∃ F', YNext w w' F F' p g s k b L := by
  obtain ⟨wb, A, n, c, G, h⟩ := h
  have HAT := Lib.hid (yat_in h m hin)
  clear h
  go_enter Tryz.func16, Tryz.ntmps16
  go_wp2_with fail
  refine HAT.out.mono ?_
  rintro e w2 ⟨F2, A2', n2', c2', G2, i2, x2, rfl, y2, hx2, hn2, f2, t2⟩
  have hm2 := List.mem_of_getElem? hx2
  obtain ⟨hb, bi, br, iv, R, h1, h2⟩ := y2.ok x2 hm2
  have hl2 := y2.l x2 hm2
  rw [hn2] at hl2
  rw [hl2] at hb h2
  have HI := Lib.hid (rpsolve_low h1 h2 y2.g2 hg)
  have HY := Lib.hid (show YNext w w2 F F2 p g s k b L from ⟨y2.r, f2, t2⟩)
  have HX := Lib.hid (fun a (e : x2.F a) => y2.fx x2 hm2 a e)
  have HS : Hid ((selP iv R).map PairV.xs = L m) := h2.sel
  clear y2 hx2 hn2 f2 t2 hb h1 h2 hl2 hm2 HAT
  go_wp2_with fail
  refine HI.out.mono ?_
  rintro e w3 ⟨rfl, k3⟩
  have HP := Lib.hid (HY.out.later k3)
  clear k3
  go_wp2_with fail
  go_ret2
  exact ⟨rfl, _, HP.out⟩
set_option maxRecDepth 100000 in
theorem ysolve_in (h : RefY w F p g s k b L) (m : Nat) (hin : winIn b k m = true) (hg : (L m).length = g) :
    Calls Tryz.prog 16 #[.pointer (some ⟨p, 0, none⟩), .int .u64 (m : Int)] w fun e w' => ∃ A c rs F', e = .returned (.tuple #[.slice A g c, .int .i64 0]) ∧ OwnRows w' w.heap.size 32 A g c rs ∧ (∀ r ∈ rs, LiesIn w' F' r) ∧ rowsXs rs = (L m).map (List.drop g) ∧ YNext w w' F F' p g s k b L := by
  obtain ⟨wb, A, n, c, G, h⟩ := h
  have HAT := Lib.hid (yat_in h m hin)
  clear h
  go_enter Tryz.func16, Tryz.ntmps16
  go_wp2_with fail
  refine HAT.out.mono ?_
  rintro e w2 ⟨F2, A2', n2', c2', G2, i2, x2, rfl, y2, hx2, hn2, f2, t2⟩
  have hm2 := List.mem_of_getElem? hx2
  obtain ⟨hb, bi, br, iv, R, h1, h2⟩ := y2.ok x2 hm2
  have hl2 := y2.l x2 hm2
  rw [hn2] at hl2
  rw [hl2] at hb h2
  have HI := Lib.hid (rpsolve_in h1 h2 y2.g2 hg)
  have HY := Lib.hid (show YNext w w2 F F2 p g s k b L from ⟨y2.r, f2, t2⟩)
  have HX := Lib.hid (fun a (e : x2.F a) => y2.fx x2 hm2 a e)
  have HS : Hid ((selP iv R).map PairV.xs = L m) := h2.sel
  clear y2 hx2 hn2 f2 t2 hb h1 h2 hl2 hm2 HAT
  go_wp2_with fail
  refine HI.out.mono ?_
  rintro e w3 ⟨A3, c3, rs, rfl, o3, l3, x3, k3⟩
  have HP := Lib.hid (And.intro (HY.out.later k3) (And.intro o3 (And.intro l3 x3)))
  clear k3 o3 l3 x3
  go_wp2_with fail
  go_ret2
  exact ⟨A3, c3, rs, F2, rfl, (OwnedRows.lowerY HP.out.2.1 HY.out.2.2.size), fun r hr => (HP.out.2.2.1 r hr).mono fun a ha => HX.out a ha, HP.out.2.2.2, HP.out.1⟩
set_option maxRecDepth 100000 in
theorem yrows_in (h : RefY w F p g s k b L) (m : Nat) (hin : winIn b k m = true) :
    Calls Tryz.prog 24 #[.pointer (some ⟨p, 0, none⟩), .int .u64 (m : Int)] w fun e w' => ∃ A n c qs F', e = .returned (.slice A n c) ∧ OwnSt w' w.heap.size A n c qs ∧ (∀ q ∈ qs, (LiesIn w' F' q.a ∧ LiesIn w' F' q.b) ∧ q.a.n = g ∧ q.b.n = s) ∧ qs.map PairV.xs = L m ∧ YNext w w' F F' p g s k b L := by
  obtain ⟨wb, A, n, c, G, h⟩ := h
  have HAT := Lib.hid (yat_in h m hin)
  clear h
  go_enter Tryz.func24, Tryz.ntmps24
  go_wp2_with fail
  refine HAT.out.mono ?_
  rintro e w2 ⟨F2, A2', n2', c2', G2, i2, x2, rfl, y2, hx2, hn2, f2, t2⟩
  have hm2 := List.mem_of_getElem? hx2
  obtain ⟨hb, bi, br, iv, R, h1, h2⟩ := y2.ok x2 hm2
  have hl2 := y2.l x2 hm2
  rw [hn2] at hl2
  rw [hl2] at hb h2
  have HI := Lib.hid (rprows_any h1 y2.g2)
  have HY := Lib.hid (show YNext w w2 F F2 p g s k b L from ⟨y2.r, f2, t2⟩)
  have HX := Lib.hid (fun a (e : x2.F a) => y2.fx x2 hm2 a e)
  have HS : Hid ((selP iv R).map PairV.xs = L m) := h2.sel
  clear y2 hx2 hn2 f2 t2 hb h1 h2 hl2 hm2 HAT
  go_wp2_with fail
  refine HI.out.mono ?_
  rintro e w3 ⟨A3, n3, c3, rfl, o3⟩
  have HP := Lib.hid (And.intro (HY.out.later o3.2.2) o3)
  clear o3
  go_wp2_with fail
  go_ret
  exact ⟨A3, n3, c3, _, F2, rfl, HP.out.2.1.lowerY HY.out.2.2.size, fun q hq => ⟨⟨(HP.out.2.2.1 q hq).1.1.mono fun a ha => HX.out a ha, (HP.out.2.2.1 q hq).1.2.mono fun a ha => HX.out a ha⟩, (HP.out.2.2.1 q hq).2⟩, HS.out, HP.out.1⟩
end
end Go.Proofs.YtcjjhblgejkkeaaGreat
/- The document's own relay: Send, Rank, Clear. -/
namespace Go.Proofs.YtcjjhblgejkkeaaGreat
open Go.RowKit Lin
set_option linter.unusedVariables false
set_option linter.unusedSimpArgs false
section
variable {w w' w0 : World} {F H F2 : Nat → Prop} {p g s k b wb n c : Nat} {L : Nat → List (List Nat)} {A : Option Addr} {G : List GenS}
theorem RefY.out (h : RefY w F p g s k b L) {m : Nat} (hin : winIn b k m = false) : L m = [] := by
  obtain ⟨wb, A, n, c, G, h⟩ := h
  exact h.no m fun x hx e => by have := h.inw x hx; rw [e, hin] at this; cases this
theorem yrows_any (h : RefY w F p g s k b L) (m : Nat) :
    Calls Tryz.prog 24 #[.pointer (some ⟨p, 0, none⟩), .int .u64 (m : Int)] w fun e w' => ∃ A n c qs F', e = .returned (.slice A n c) ∧ OwnSt w' w.heap.size A n c qs ∧ (∀ q ∈ qs, (LiesIn w' F' q.a ∧ LiesIn w' F' q.b) ∧ q.a.n = g ∧ q.b.n = s) ∧ qs.map PairV.xs = L m ∧ YNext w w' F F' p g s k b L := by
  cases hin : winIn b k m with
  | true => exact yrows_in h m hin
  | false =>
    refine (yrows_out h m hin).mono ?_
    rintro e w1 ⟨rfl, k1⟩
    exact ⟨none, 0, 0, [], F, rfl, OwnSt.none_ _ _, fun q hq => by simp at hq, (h.out hin).symm, YNext.stay h k1⟩
set_option maxRecDepth 100000 in
theorem yrank_any (h : RefY w F p g s k b L) (m : Nat) :
    Calls Tryz.prog 26 #[.pointer (some ⟨p, 0, none⟩), .int .u64 (m : Int)] w fun e w' => e = .returned (.int .i64 ((L m).length : Int)) ∧ ∃ F', YNext w w' F F' p g s k b L := by
  have HR := Lib.hid (yrows_any h m)
  clear h
  go_enter Tryz.func26, Tryz.ntmps26
  go_wp2_with fail
  refine HR.out.mono ?_
  rintro e w1 ⟨A1, n1, c1, qs, F1, rfl, o1, -, hq, hy⟩
  have hn : n1 = (L m).length := by rw [← hq, List.length_map, o1.length]
  have HY := Lib.hid hy
  have HN := Lib.hid hn
  clear o1 hq hy hn HR
  go_wp2_with fail
  go_ret
  exact ⟨by rw [← HN.out]; rfl, _, HY.out⟩
set_option maxRecDepth 100000 in
theorem yclear_any (h : RefY w F p g s k b L) :
    Calls Tryz.prog 20 #[.pointer (some ⟨p, 0, none⟩)] w fun e w' => e = .returned (.tuple #[]) ∧ YNext w w' F F p g s k b (fun _ => []) := by
  obtain ⟨wb, A, n, c, G, h⟩ := h
  have c3 := h.c3
  have hfr := h.free 3
  have HY := Lib.hid h
  clear h
  go_enter Tryz.func20, Tryz.ntmps20
  go_wp2_with fail
  go_end0
  have h := HY.out
  have t : Turned F w (w.setCell ⟨p, 3, none⟩ (.slice none 0 0)) := Turned.set (F := F) w ⟨p, 3, none⟩ _ h.fp
  have tp : Turned (fun a => a = p) w (w.setCell ⟨p, 3, none⟩ (.slice none 0 0)) := Turned.set (F := fun a => a = p) w ⟨p, 3, none⟩ _ rfl
  refine ⟨rfl, RefYA.r (wb := wb) (A := none) (n := 0) (c := 0) (G := []) ⟨?_, h.win.turned tp fun e => h.ne.1 e.symm, OwnGn.none_ _ _, fun x hx => by simp at hx, fun i j x y _ hx => by simp at hx, fun x hx => by simp at hx, fun i j x y _ hx => by simp at hx, fun x hx => by simp at hx, ⟨h.ne.1, fun a ha => by simp [Value.ownBlock] at ha⟩, h.fp, h.fw, fun a ha => by simp [Value.ownBlock] at ha, fun x hx => by simp at hx, fun a ha => Nat.lt_of_lt_of_le (h.lt a ha) t.size, h.g1, h.g2, h.s1, h.s2, fun x hx => by simp at hx, fun m hm => rfl⟩, fun j e => Or.inl e, t⟩
  rw [bset h.block]; rfl
theorem YNext.own {w1 w3 w4 : World} (h : YNext w1 w3 F F2 p g s k b L) (kp : Keep w w1) (hF : ¬ F w.heap.size) (hs : w1.heap.size = w.heap.size + 1) (t : Turned (fun a => a = w.heap.size) w3 w4) : YNext w w4 F F2 p g s k b L := by
  refine ⟨h.1.turned t fun a ha e => ?_, fun j e => (h.2.1 j e).imp id fun e => Nat.le_trans kp.size e, ((Turned.of_keep (F := F) kp).trans h.2.2 fun j e => Or.inl e).trans t fun j e => Or.inr (by omega)⟩
  rcases h.2.1 a ha with e2 | e2
  · exact hF (e ▸ e2)
  · omega
set_option maxRecDepth 100000 in
theorem ysend_out (h : RefY w F p g s k b L) (m sent mb cb : Nat) (Ab : Option Addr) (hin : winIn b k m = false) :
    Calls Tryz.prog 14 #[.pointer (some ⟨p, 0, none⟩), .int .u64 (m : Int), .int .u64 (sent : Int), .slice Ab mb cb] w fun e w' => e = .returned (.tuple #[.agg #[.slice none 0 0, .slice none 0 0], .int .i64 23]) ∧ ∃ F', YNext w w' F F' p g s k b L := by
  obtain ⟨wb, A, n, c, G, h⟩ := h
  have hk0 : Keep w (w.alloc (.cells #[.slice none 0 0, .slice none 0 0] 34)) := (Keep.refl w).alloc _ _
  have hq := heap_alloc_new w (.cells #[.slice none 0 0, .slice none 0 0] 34)
  have hsz : (w.alloc (.cells #[.slice none 0 0, .slice none 0 0] 34)).heap.size = w.heap.size + 1 := by simp
  obtain ⟨w1, hw1⟩ : ∃ w1, w.alloc (.cells #[.slice none 0 0, .slice none 0 0] 34) = w1 := ⟨_, rfl⟩
  rw [hw1] at hk0 hq hsz
  have hnF : ¬ F w.heap.size := fun e => by have := h.lt _ e; omega
  have HNF := Lib.hid hnF
  have HSZ := Lib.hid hsz
  have HK0 := Lib.hid hk0
  have HQ := Lib.hid hq
  have HY1 := Lib.hid (YNext.stay (w := w1) (h.keep hk0).r (Keep.refl w1))
  have HAT := Lib.hid (yat_out (h.keep hk0) m hin)
  clear h hk0 hq hsz hnF
  go_enter Tryz.func14, Tryz.ntmps14
  go_wp2_with fail
  refine HAT.out.mono ?_
  rintro e w2 ⟨rfl, k2⟩
  have HK2 := Lib.hid k2
  have hb0 := (k2.block _ (by have := HSZ.out; omega)).trans HQ.out
  have y0 : w2.cell? ⟨w.heap.size, 0, none⟩ = some (.slice none 0 0) := cell_of_row _ _ _ _ _ _ hb0
  have y1 : w2.cell? ⟨w.heap.size, 1, none⟩ = some (.slice none 0 0) := cell_of_row _ _ _ _ _ _ hb0
  have z0 : w2.frozen? ⟨w.heap.size, 0, none⟩ = false := by simp [World.frozen?, hb0]
  have z1 : w2.frozen? ⟨w.heap.size, 1, none⟩ = false := by simp [World.frozen?, hb0]
  have HB := Lib.hid (bset (i := 1) (bset (i := 0) hb0 (.slice none 0 0)) (.slice none 0 0))
  have ts : Turned (fun a => a = w.heap.size) w2 ((w2.setCell ⟨w.heap.size, 0, none⟩ (.slice none 0 0)).setCell ⟨w.heap.size, 1, none⟩ (.slice none 0 0)) := (Turned.set (F := fun a => a = w.heap.size) w2 ⟨w.heap.size, 0, none⟩ _ rfl).trans (Turned.set (F := fun a => a = w.heap.size) _ ⟨w.heap.size, 1, none⟩ _ rfl) fun j e => Or.inl e
  have HTS := Lib.hid ts
  clear ts hb0
  clear k2 HAT
  go_wp2_with fail
  refine bodyPost_ret (v := .tuple #[.agg #[.slice none 0 0, .slice none 0 0], .int .i64 23]) ?_ rfl ⟨rfl, _, (HY1.out.later HK2.out).own HK0.out HNF.out HSZ.out HTS.out⟩
  exact results_cell_tmp (p := 8) (u := 9) (ty := 34) rfl _ _ w.heap.size 34 _ (0, 0) _ rfl HB.out Tryz.underlying34 rfl infoRowSize

set_option maxRecDepth 100000 in
theorem ysend_none (h : RefY w F p g s k b L) (m sent mb cb : Nat) (Ab : Option Addr) (hin : winIn b k m = true) (h0 : (L m).length = 0) :
    Calls Tryz.prog 14 #[.pointer (some ⟨p, 0, none⟩), .int .u64 (m : Int), .int .u64 (sent : Int), .slice Ab mb cb] w fun e w' => e = .returned (.tuple #[.agg #[.slice none 0 0, .slice none 0 0], .int .i64 6]) ∧ ∃ F', YNext w w' F F' p g s k b L := by
  obtain ⟨wb, A, n, c, G, h⟩ := h
  have hk0 : Keep w (w.alloc (.cells #[.slice none 0 0, .slice none 0 0] 34)) := (Keep.refl w).alloc _ _
  have hq := heap_alloc_new w (.cells #[.slice none 0 0, .slice none 0 0] 34)
  have hsz : (w.alloc (.cells #[.slice none 0 0, .slice none 0 0] 34)).heap.size = w.heap.size + 1 := by simp
  obtain ⟨w1, hw1⟩ : ∃ w1, w.alloc (.cells #[.slice none 0 0, .slice none 0 0] 34) = w1 := ⟨_, rfl⟩
  rw [hw1] at hk0 hq hsz
  have hnF : ¬ F w.heap.size := fun e => by have := h.lt _ e; omega
  have HNF := Lib.hid hnF
  have HSZ := Lib.hid hsz
  have HK0 := Lib.hid hk0
  have HQ := Lib.hid hq
  have HAT := Lib.hid (yat_in (h.keep hk0) m hin)
  have H0 := Lib.hid h0
  clear h hk0 hq hsz hnF h0
  go_enter Tryz.func14, Tryz.ntmps14
  go_wp2_with fail
  refine HAT.out.mono ?_
  rintro e w2 ⟨F2, A2', n2', c2', G2, i2, x2, rfl, y2, hx2, hn2, f2, t2⟩
  have hm2 := List.mem_of_getElem? hx2
  obtain ⟨hb, bi, br, iv, R, h1, h2⟩ := y2.ok x2 hm2
  have hl2 := y2.l x2 hm2
  rw [hn2] at hl2
  rw [hl2] at hb h2
  have hrk := rprank_any h1 h2 y2.g2
  rw [H0.out] at hrk
  have HI := Lib.hid hrk
  have HY := Lib.hid (show YNext w1 w2 F F2 p g s k b L from ⟨y2.r, f2, t2⟩)
  have HBL := Lib.hid ((t2.block _ (by have := HSZ.out; omega) HNF.out).trans HQ.out)
  have HS2 := Lib.hid t2.size
  clear y2 hx2 hn2 f2 t2 hb h1 h2 hl2 hm2 HAT hrk
  go_wp2_with fail
  refine HI.out.mono ?_
  rintro e w3 ⟨rfl, k3⟩
  have HK3 := Lib.hid k3
  have hb0 := (k3.block _ (by have := HSZ.out; have := HS2.out; omega)).trans HBL.out
  have y0 : w3.cell? ⟨w.heap.size, 0, none⟩ = some (.slice none 0 0) := cell_of_row _ _ _ _ _ _ hb0
  have y1 : w3.cell? ⟨w.heap.size, 1, none⟩ = some (.slice none 0 0) := cell_of_row _ _ _ _ _ _ hb0
  have z0 : w3.frozen? ⟨w.heap.size, 0, none⟩ = false := by simp [World.frozen?, hb0]
  have z1 : w3.frozen? ⟨w.heap.size, 1, none⟩ = false := by simp [World.frozen?, hb0]
  have HB := Lib.hid (bset (i := 1) (bset (i := 0) hb0 (.slice none 0 0)) (.slice none 0 0))
  have ts : Turned (fun a => a = w.heap.size) w3 ((w3.setCell ⟨w.heap.size, 0, none⟩ (.slice none 0 0)).setCell ⟨w.heap.size, 1, none⟩ (.slice none 0 0)) := (Turned.set (F := fun a => a = w.heap.size) w3 ⟨w.heap.size, 0, none⟩ _ rfl).trans (Turned.set (F := fun a => a = w.heap.size) _ ⟨w.heap.size, 1, none⟩ _ rfl) fun j e => Or.inl e
  have HTS := Lib.hid ts
  clear ts hb0
  clear k3 HI
  go_wp2_with fail
  refine bodyPost_ret (v := .tuple #[.agg #[.slice none 0 0, .slice none 0 0], .int .i64 6]) ?_ rfl ⟨rfl, _, (HY.out.later HK3.out).own HK0.out HNF.out HSZ.out HTS.out⟩
  exact results_cell_tmp (p := 8) (u := 9) (ty := 34) rfl _ _ w.heap.size 34 _ (0, 0) _ rfl HB.out Tryz.underlying34 rfl infoRowSize

set_option maxRecDepth 100000 in
theorem ysend_in (h : RefY w F p g s k b L) (m sent mb cb : Nat) (Ab : Option Addr) (xs : List Nat) (hin : winIn b k m = true) (h0 : (L m).length ≠ 0) (hs : sent < 18446744073709551616) (hmb : mb ≤ 140737488351232) (hb : LiesIn w H ⟨Ab, mb, cb, xs⟩) (hH : ∀ a, H a → a < w.heap.size ∧ ¬ F a) :
    Calls Tryz.prog 14 #[.pointer (some ⟨p, 0, none⟩), .int .u64 (m : Int), .int .u64 (sent : Int), .slice Ab mb cb] w fun e w' => ∃ (q : PairV) (F' : Nat → Prop), e = .returned (.tuple #[q.agg, .int .i64 0]) ∧ q.a.n = g ∧ q.b.n = s ∧ LiesIn w' (fun x => w.heap.size ≤ x ∧ x < w'.heap.size) q.a ∧ LiesIn w' (fun x => w.heap.size ≤ x ∧ x < w'.heap.size) q.b ∧ q.a.xs ++ q.b.xs = sendN g s (L m) sent xs ∧ YNext w w' F F' p g s k b L := by
  obtain ⟨wb, A, n, c, G, h⟩ := h
  have hk0 : Keep w (w.alloc (.cells #[.slice none 0 0, .slice none 0 0] 34)) := (Keep.refl w).alloc _ _
  have hq := heap_alloc_new w (.cells #[.slice none 0 0, .slice none 0 0] 34)
  have hsz : (w.alloc (.cells #[.slice none 0 0, .slice none 0 0] 34)).heap.size = w.heap.size + 1 := by simp
  obtain ⟨w1, hw1⟩ : ∃ w1, w.alloc (.cells #[.slice none 0 0, .slice none 0 0] 34) = w1 := ⟨_, rfl⟩
  rw [hw1] at hk0 hq hsz
  have hnF : ¬ F w.heap.size := fun e => by have := h.lt _ e; omega
  have HNF := Lib.hid hnF
  have HSZ := Lib.hid hsz
  have HK0 := Lib.hid hk0
  have HQ := Lib.hid hq
  have HAT := Lib.hid (yat_in (h.keep hk0) m hin)
  obtain ⟨r, hr⟩ : ∃ r, (L m).length = r := ⟨_, rfl⟩
  rw [hr] at h0
  have HR := Lib.hid hr
  have HLB := Lib.hid hb
  have HH := Lib.hid hH
  obtain ⟨t, ht⟩ : ∃ t, sent % r = t := ⟨_, rfl⟩
  have htr : t < r := by rw [← ht]; exact Nat.mod_lt _ (by omega)
  have HT := Lib.hid ht
  clear h hk0 hq hsz hnF hr hb hH ht
  go_enter Tryz.func14, Tryz.ntmps14
  go_wp2_with fail
  refine HAT.out.mono ?_
  rintro e w2 ⟨F2, A2', n2', c2', G2, i2, x2, rfl, y2, hx2, hn2, f2, t2⟩
  have hm2 := List.mem_of_getElem? hx2
  obtain ⟨hb, bi, br, iv, R, h1, h2⟩ := y2.ok x2 hm2
  have hl2 := y2.l x2 hm2
  rw [hn2] at hl2
  rw [hl2] at hb h2
  have hrk := rprank_any h1 h2 y2.g2
  rw [HR.out] at hrk
  have hr255 : r ≤ 255 := by have := hb.length_le; have := y2.g2; have := HR.out; omega
  have HI := Lib.hid hrk
  have HY := Lib.hid (show YNext w1 w2 F F2 p g s k b L from ⟨y2.r, f2, t2⟩)
  have HBL := Lib.hid ((t2.block _ (by have := HSZ.out; omega) HNF.out).trans HQ.out)
  have HS2 := Lib.hid t2.size
  have HX := Lib.hid (And.intro h1 (And.intro h2 (And.intro y2.g2 y2.s2)))
  have hl : LiesIn w2 H ⟨Ab, mb, cb, xs⟩ := (HLB.out.turned (Turned.of_keep (F := fun _ => False) HK0.out) fun _ _ e => e).turned t2 fun a ha => (HH.out a ha).2
  have hby := hl.bytes (B := w2.heap.size) fun a ha => by have := (HH.out a ha).1; have := HS2.out; have := HSZ.out; omega
  have HBY := Lib.hid hby
  clear y2 hx2 hn2 f2 t2 hb h1 h2 hl2 hm2 HAT hrk hl hby
  have b0 : decide ((r : Int) = 0) = false := decide_eq_false (by omega)
  have b1 : decide (r = 0) = false := decide_eq_false h0
  have b2 : ((r : Int) == 0) = false := by rw [beq_eq_false_iff_ne]; omega
  have v1 : IntKind.u64.wrap (r : Int) = (r : Int) := IntWalk.u64_in _ (by omega)
  have v2 : (sent : Int) % (r : Int) = (t : Int) := by have := HT.out; omega
  have v2' : (sent : Int).tmod (r : Int) = (t : Int) := by rw [← HT.out]; rfl
  have v3 : IntKind.i64.wrap (t : Int) = (t : Int) := IntWalk.i64_in _ (by omega)
  have v4 : (r : Int) ≠ 0 := by omega
  go_wp2_with fail
  refine HI.out.mono ?_
  rintro e w3 ⟨rfl, k3⟩
  have HK3 := Lib.hid k3
  have HC := Lib.hid (rcoefs_any _ r t mb cb Ab xs w3 (HBY.out.keep (Nat.le_refl _) k3) k3.size (by omega) hr255 htr hmb)
  clear k3 HI
  go_wp2_with fail
  refine HC.out.mono ?_
  rintro e w4 ⟨A4, n4, c4, rfl, o4, k4⟩
  have hn4 : n4 = (L m).length := by rw [HR.out, ← o4.length, coefN_len]
  have HCB := Lib.hid (rpcombine_in ((HX.out.1.keep (HK3.out.trans k4))) HX.out.2.1 HX.out.2.2.1 HX.out.2.2.2 w4.heap.size c4 n4 A4 _ o4.bytes (Nat.le_refl _) hn4)
  have HK4 := Lib.hid (HK3.out.trans k4)
  clear o4 k4 hn4 HC
  go_wp2_with fail
  refine HCB.out.mono ?_
  rintro e w5 ⟨⟨⟨A5, n5, c5, x5⟩, ⟨A6, n6, c6, x6⟩⟩, he, an, bn, l5, l6, hx, k5⟩
  obtain rfl : e = .returned (.tuple #[.agg #[.slice A5 n5 c5, .slice A6 n6 c6], .int .i64 0]) := he
  have HK5 := Lib.hid (HK4.out.trans k5)
  have HS4 := Lib.hid HK4.out.size
  have HL := Lib.hid (And.intro l5 (And.intro l6 (And.intro hx (And.intro an bn))))
  have hb0 := (HK5.out.block _ (by have := HSZ.out; have := HS2.out; omega)).trans HBL.out
  have y0 : w5.cell? ⟨w.heap.size, 0, none⟩ = some (.slice none 0 0) := cell_of_row _ _ _ _ _ _ hb0
  have y1 : w5.cell? ⟨w.heap.size, 1, none⟩ = some (.slice none 0 0) := cell_of_row _ _ _ _ _ _ hb0
  have z0 : w5.frozen? ⟨w.heap.size, 0, none⟩ = false := by simp [World.frozen?, hb0]
  have z1 : w5.frozen? ⟨w.heap.size, 1, none⟩ = false := by simp [World.frozen?, hb0]
  have HB := Lib.hid (bset (i := 1) (bset (i := 0) hb0 (.slice A5 n5 c5)) (.slice A6 n6 c6))
  have ts : Turned (fun a => a = w.heap.size) w5 ((w5.setCell ⟨w.heap.size, 0, none⟩ (.slice A5 n5 c5)).setCell ⟨w.heap.size, 1, none⟩ (.slice A6 n6 c6)) := (Turned.set (F := fun a => a = w.heap.size) w5 ⟨w.heap.size, 0, none⟩ _ rfl).trans (Turned.set (F := fun a => a = w.heap.size) _ ⟨w.heap.size, 1, none⟩ _ rfl) fun j e => Or.inl e
  have HTS := Lib.hid ts
  clear ts hb0
  clear k5 HCB l5 l6 hx an bn
  go_wp2_with fail
  refine bodyPost_ret (v := .tuple #[.agg #[.slice A5 n5 c5, .slice A6 n6 c6], .int .i64 0]) ?_ rfl ?_
  · exact results_cell_tmp (p := 8) (u := 9) (ty := 34) rfl _ _ w.heap.size 34 _ (0, 0) _ rfl HB.out Tryz.underlying34 rfl infoRowSize
  have hz := HSZ.out
  have hz2 := HS2.out
  have hz4 := HS4.out
  have hts := HTS.out.size
  have lies : ∀ y : RowV, LiesIn w5 (fun x => w4.heap.size ≤ x ∧ x < w5.heap.size) y → LiesIn ((w5.setCell ⟨w.heap.size, 0, none⟩ (.slice A5 n5 c5)).setCell ⟨w.heap.size, 1, none⟩ (.slice A6 n6 c6)) (fun x => w.heap.size ≤ x ∧ x < ((w5.setCell ⟨w.heap.size, 0, none⟩ (.slice A5 n5 c5)).setCell ⟨w.heap.size, 1, none⟩ (.slice A6 n6 c6)).heap.size) y := fun y hy => (hy.turned HTS.out fun x hx e => by omega).mono fun x hx => ⟨by omega, by omega⟩
  exact ⟨⟨⟨A5, n5, c5, x5⟩, ⟨A6, n6, c6, x6⟩⟩, _, rfl, HL.out.2.2.2.1, HL.out.2.2.2.2, lies _ HL.out.1, lies _ HL.out.2.1, by rw [sendN, HR.out, HT.out, ← HR.out]; rw [HR.out]; have h := HL.out.2.2.1; rw [HR.out] at h; exact h, (HY.out.later HK5.out).own HK0.out HNF.out HSZ.out HTS.out⟩
end
end Go.Proofs.YtcjjhblgejkkeaaGreat
/- The document's own relay: Ranks. -/
namespace Go.Proofs.YtcjjhblgejkkeaaGreat
open Go.RowKit Lin
set_option linter.unusedVariables false
set_option linter.unusedSimpArgs false
theorem OwnRk.turned {F : Nat → Prop} {w w' : World} {base n c : Nat} {A : Option Addr} {l : List (Nat × Nat)} (h : OwnRk w base A n c l) (k : Turned F w w') (hn : ∀ b, (Value.slice A n c).ownBlock = some b → ¬ F b) : OwnRk w' base A n c l := k.owns h hn
theorem OwnU.insO {w : World} {base n c : Nat} {A : Option Addr} {l : List Nat} (h : OwnU w base A n c l) : UsIn w (fun b => (Value.slice A n c).ownBlock = some b) A n l := by
  obtain ⟨h1, h2⟩ := h.ins
  refine ⟨h1, fun hn => ?_⟩
  obtain ⟨b, off, e, hb, hl, hc⟩ := h2 hn
  subst e
  exact ⟨b, off, rfl, rfl, hl, hc⟩
theorem run_append_rk2 {w : World} {base n c cx t : Nat} {A : Option Addr} {l : List (Nat × Nat)} {ad : Addr} (p : Nat × Nat) (ht : Tryz.prog.underlying t = some (.slice 84)) (hown : OwnRk w base A n c l) (h0 : w.cell? (ad.add 0) = some (.int .u64 (p.1 : Int))) (h1 : w.cell? (ad.add 1) = some (.int .i64 (p.2 : Int))) (hlen : n ≤ 1000000) (hbase : base ≤ w.heap.size) (ty : TypeId) :
    ∃ A2 c2 w', (Builtin.append_ #[t, t] ty #[.slice A n c, .slice (some ad) 1 cx]).run Tryz.prog w = .ok (.slice A2 (n + 1) c2) w' ∧ OwnRk w' base A2 (n + 1) c2 (l ++ [p]) ∧ w.grownBy w' (Value.slice A n c).ownBlock ∧ ((Value.slice A2 (n + 1) c2).ownBlock = (Value.slice A n c).ownBlock ∨ (Value.slice A2 (n + 1) c2).ownBlock = some w.heap.size) := by
  obtain ⟨i0, hi0, hz0, hz1, hz2⟩ := info_parts infoRk
  obtain ⟨v', w', hrun, h2, h3, _, h5⟩ := run_append_own_at (P := Tryz.prog) w base t ty _ i0 (.agg #[.int .u64 0, .int .i64 0]) 2 16 ht hi0 hz0 hz1 hz2 rfl (by decide) _ n _ hown ad 1 cx (rkVals p) rfl
    (fun j u hj => by
      match j, hj with
      | 0, hj => simp [rkVals] at hj; subst hj; exact h0
      | 1, hj => simp [rkVals] at hj; subst hj; exact h1
      | j + 2, hj => simp [rkVals] at hj)
    (fun u hu => by
      simp [rkVals] at hu
      rcases hu with rfl | rfl <;> rfl) (by unfold maxLen; omega) (by omega) hbase
  have e : l.flatMap rkVals ++ rkVals p = (l ++ [p]).flatMap rkVals := by rw [List.flatMap_append]; simp
  rw [e] at h2
  obtain ⟨A2, c2, rfl⟩ := own_shape h2
  exact ⟨A2, c2, w', hrun, h2, h3, h5⟩
/-- append(ranks, rank), the rank in a block of one. -/
theorem wpList_append_rk2 {ops : Array Oper} {rest : List Oper} {o : Oper} {a : Act} {Q : Exit → Act → World → Prop} {w : World} (hgd : o.guard = none) (s x : Operand) (t : TypeId)
    (ho : o.op = .call { callee := .builtin .append, args := #[s, x], argTypes := #[t, t] }) {base n c cx : Nat} {A : Option Addr} {l : List (Nat × Nat)} {gx : Nat} (p : Nat × Nat) (ht : Tryz.prog.underlying t = some (.slice 84))
    (hs : a.eval s = .slice A n c) (hown : OwnRk w base A n c l) (hx0 : a.eval x = .slice (some ⟨gx, 0, none⟩) 1 cx) (h0 : w.cell? ⟨gx, 0, none⟩ = some (.int .u64 (p.1 : Int))) (h1 : w.cell? ⟨gx, 1, none⟩ = some (.int .i64 (p.2 : Int))) (hlen : n ≤ 1000000) (hbase : base ≤ w.heap.size)
    (h : ∀ A2 c2 w', OwnRk w' base A2 (n + 1) c2 (l ++ [p]) → w.grownBy w' (Value.slice A n c).ownBlock → ((Value.slice A2 (n + 1) c2).ownBlock = (Value.slice A n c).ownBlock ∨ (Value.slice A2 (n + 1) c2).ownBlock = some w.heap.size) → wpList Tryz.prog ops Q rest (a.put o.dst (.slice A2 (n + 1) c2)) w') : wpList Tryz.prog ops Q (o :: rest) a w := by
  refine wpList_plain hgd fun _ hK => ?_
  have ha : ∀ j, (⟨gx, 0, none⟩ : Addr).add j = ⟨gx, j, none⟩ := fun j => by unfold Addr.add; split <;> simp_all
  obtain ⟨A2, c2, w', hr, h2, h3, h5⟩ := run_append_rk2 (cx := cx) (ad := ⟨gx, 0, none⟩) p ht hown (by rw [ha]; exact h0) (by rw [ha]; exact h1) hlen hbase o.type
  unfold Oper.wp execOp
  simp only [ho, resolve, invoke, builtin, Sem.run_bind, Sem.run_pure, Result.andThen_ok, List.map_toArray, List.map_cons, List.map_nil, hs, hx0, hr]
  exact hK _ _ (h A2 c2 w' h2 h3 h5)
section
variable {w w' w0 : World} {F H F2 F3 : Nat → Prop} {p g s k b wb n c : Nat} {L L' : Nat → List (List Nat)} {A : Option Addr} {G : List GenS}
theorem YNext.trans {b' : Nat} (h : YNext w w' F F2 p g s k b L) (h2 : YNext w' w0 F2 F3 p g s k b' L') : YNext w w0 F F3 p g s k b' L' := by
  have e : ∀ j, F2 j → F j ∨ w.heap.size ≤ j := h.2.1
  refine ⟨h2.1, fun j hj => ?_, h.2.2.trans h2.2.2 e⟩
  rcases h2.2.1 j hj with h3 | h3
  · exact e j h3
  · exact Or.inr (Nat.le_trans h.2.2.size h3)
theorem RefY.win (h : RefY w F p g s k b L) : ∃ wb, RefW w wb k b ∧ F wb ∧ w.cell? ⟨p, 2, none⟩ = some (.pointer (some ⟨wb, 0, none⟩)) := by
  obtain ⟨wb, A, n, c, G, h⟩ := h
  exact ⟨wb, h.win, h.fw, h.c2⟩
theorem RefY.len (h : RefY w F p g s k b L) (m : Nat) : (L m).length ≤ g ∧ g ≤ 255 := by
  obtain ⟨wb, A, n, c, G, h⟩ := h
  refine ⟨?_, h.g2⟩
  by_cases e : ∃ x ∈ G, x.n = m
  · obtain ⟨x, hx, rfl⟩ := e
    rw [← h.l x hx]
    exact (h.ok x hx).1.length_le
  · rw [h.no m fun x hx e2 => e ⟨x, hx, e2⟩]; exact Nat.zero_le _
set_option maxRecDepth 100000 in
set_option maxHeartbeats 1000000 in
theorem yranks_any (h : RefY w F p g s k b L) : Calls Tryz.prog 29 #[.pointer (some ⟨p, 0, none⟩)] w fun e w' => ∃ A n c F', e = .returned (.slice A n c) ∧ OwnRk w' w.heap.size A n c (rksOf L (winL b k)) ∧ YNext w w' F F' p g s k b L := by
  obtain ⟨wb, hW, hFw, c2⟩ := h.win
  have hkb := And.intro hW.high hW.top
  have HA := Lib.hid (rall_any hW)
  have HKB := Lib.hid hkb
  have HH := Lib.hid h
  clear hW hFw hkb h
  go_enter Tryz.func29, Tryz.ntmps29
  go_wp2_with fail
  refine HA.out.mono ?_
  rintro e w2 ⟨A, n, c, rfl, hO, k2⟩
  have HL := Lib.hid hO.length
  have HU := Lib.hid hO.insO
  have HOB := Lib.hid hO.rowLe
  have HLT : Hid (∀ a, (Value.slice A n c).ownBlock = some a → a < w2.heap.size) := fun a ha => (World.ownsRow.lt hO a ha).2
  have HY2 := Lib.hid (YNext.stay HH.out k2)
  have hn16 : n ≤ 16 := by rw [← hO.length]; exact Nat.le_trans (winL_le b k) HKB.out.1
  have HF : Hid (∀ a, F a → a < w.heap.size) := HH.out.lt
  have HS2 : Hid (w.heap.size ≤ w2.heap.size) := k2.size
  clear hO k2 HA c2
  go_wp2_with fail
  go_loopw [3, 5] (fun v i wr => ∃ (m r d : Nat) (V : Option Addr) (F' : Nat → Prop), m ≤ n ∧ r ≤ m ∧ i = .int .i64 (m : Int) ∧ v = .slice V r d ∧ OwnRk wr w2.heap.size V r d (rksOf L ((winL b k).take m)) ∧ UsIn wr (fun a => (Value.slice A n c).ownBlock = some a) A n (winL b k) ∧ YNext w wr F F' p g s k b L ∧ (∀ a, F' a → ¬ (Value.slice A n c).ownBlock = some a ∧ ¬ (Value.slice V r d).ownBlock = some a) ∧ w2.heap.size ≤ wr.heap.size) (fun _ i _ => n - (intOf i).toNat)
  case atStart => exact ⟨0, 0, 0, none, F, by omega, by omega, rfl, rfl, OwnRk.none_ _ _, HU.out, HY2.out, fun a ha => ⟨fun e => by have := HOB.out a e; have := HF.out a ha; omega, fun e => by simp [Value.ownBlock] at e⟩, Nat.le_refl _⟩
  case round =>
    obtain ⟨m, r, d, V, F', hm, hr, rfl, rfl, hO, hU, hY, hap, hsz⟩ := hrel
    have HO := Lib.hid hO
    have HUU := Lib.hid hU
    have HY := Lib.hid hY
    have HAP := Lib.hid hap
    have HSZ := Lib.hid hsz
    clear hO hU hY hap hsz
    by_cases hlt : m < n
    · have e2 : (m : Int) < (n : Int) := by omega
      have e1 : (0 : Int) ≤ (m : Int) := by omega
      obtain ⟨bb, off, x, rfl, hb1, hb2, hx, hcell⟩ := (HUU.out).at_ hlt
      have HR := Lib.hid (yrank_any HY.out.1 x)
      have HX := Lib.hid hx
      have hlen := HY.out.1.len x
      obtain ⟨z, hz⟩ : ∃ z, (L x).length = z := ⟨_, rfl⟩
      rw [hz] at HR hlen
      have HZ := Lib.hid hz
      have hvlt : ∀ a, (Value.slice V r d).ownBlock = some a → a < wr.heap.size := fun a ha => (World.ownsRow.lt HO.out a ha).2
      have HVL := Lib.hid hvlt
      have HB2 := Lib.hid (And.intro hb1 hb2)
      have HOLT : Hid (∀ a, (Value.slice (some ⟨bb, off, none⟩) n c).ownBlock = some a → a < w2.heap.size) := HLT.out
      clear hb1 hx hz hvlt
      by_cases h0 : 0 < z
      · have e3 : (0 : Int) < (z : Int) := by omega
        go_wp2_with fail
        refine HR.out.mono ?_
        rintro e w5 ⟨rfl, F5, hy5⟩
        have HY5 := Lib.hid (HY.out.trans hy5)
        have ap5 : ∀ a, F5 a → ¬ (Value.slice (some ⟨bb, off, none⟩) n c).ownBlock = some a ∧ ¬ (Value.slice V r d).ownBlock = some a := fun a ha => by
          rcases hy5.2.1 a ha with e | e
          · exact HAP.out a e
          · exact ⟨fun e2 => by have := HLT.out a e2; have := HSZ.out; omega, fun e2 => by have := HVL.out a e2; omega⟩
        have HAP5 := Lib.hid ap5
        have HO5 := Lib.hid (HO.out.turned hy5.2.2 fun a ha e => (HAP.out a e).2 ha)
        have HU5 := Lib.hid (HUU.out.turned hy5.2.2 fun a ha e => (HAP.out a e).1 ha)
        have HZ5 := Lib.hid hy5.2.2.size
        have hb5 : bb < w5.heap.size := Nat.lt_of_lt_of_le hb2 hy5.2.2.size
        have hc5 := hy5.2.2.cell hcell fun e => (HAP.out _ e).1 HB2.out.1
        clear hy5 ap5 hcell HR
        go_wp2_with (at_builtin; refine wpList_append_rk2 rfl _ _ 59 rfl (x, z) Tryz.underlying59 rfl (HO5.out.alloc _) rfl (cell_of_row _ _ _ _ _ _ (heap_alloc_new _ _)) (cell_of_row _ _ _ _ _ _ (heap_alloc_new _ _)) (by omega) (by have := HSZ.out; have := HZ5.out; simp; omega) ?_)
        intro V2 d2 w6 hO2 hg2 hb2
        have ka : Keep w5 (w5.alloc (.cells #[.int .u64 (x : Int), .int .i64 (z : Int)] 84)) := (Keep.refl w5).alloc _ _
        have hsa : (w5.alloc (.cells #[.int .u64 (x : Int), .int .i64 (z : Int)] 84)).heap.size = w5.heap.size + 1 := by simp
        have t6 : Turned (fun a => (Value.slice V r d).ownBlock = some a) w5 w6 := (Turned.of_keep (F := fun a => (Value.slice V r d).ownBlock = some a) ka).trans (Turned.of_grown (F := fun a => (Value.slice V r d).ownBlock = some a) hg2 fun i e => e) fun j e => Or.inl e
        have h6s := t6.size
        have nV : ∀ a, F5 a → ¬ (Value.slice V r d).ownBlock = some a := fun a ha => (HAP5.out a ha).2
        have HY6 : Hid (YNext w w6 F F5 p g s k b L) := ⟨HY5.out.1.turned t6 nV, HY5.out.2.1, HY5.out.2.2.trans t6 fun j e => Or.inr (by have := HO5.out.rowLe j e; have := HS2.out; omega)⟩
        have HO6 : Hid (OwnRk w6 w2.heap.size V2 (r + 1) d2 (rksOf L ((winL b k).take (m + 1)))) := by
          show OwnRk _ _ _ _ _ _
          rw [rksOf_more L HX.out (by rw [HZ.out]; exact h0), HZ.out]; exact hO2
        have HU6 := Lib.hid (HU5.out.turned t6 fun a ha e => by have := HOLT.out a ha; have := HO5.out.rowLe a e; omega)
        have HAP6 : Hid (∀ a, F5 a → ¬ (Value.slice (some ⟨bb, off, none⟩) n c).ownBlock = some a ∧ ¬ (Value.slice V2 (r + 1) d2).ownBlock = some a) := fun a ha => ⟨(HAP5.out a ha).1, fun e => by
          rcases hb2 with e2 | e2
          · rw [e2] at e; exact nV a ha e
          · rw [e2] at e
            injection e with e
            have := HY5.out.1.lt a ha
            omega⟩
        have HS6 : Hid (w2.heap.size ≤ w6.heap.size) := by have := HSZ.out; have := HZ5.out; show _ ≤ _; omega
        clear hO2 hg2 hb2 ka hsa t6 h6s nV hc5 hb5
        go_wp2_with fail
        go_roundw
        case rel => exact ⟨m + 1, r + 1, d2, V2, F5, by omega, by omega, by go_num, rfl, HO6.out, HU6.out, HY6.out, HAP6.out, HS6.out⟩
        case measure => simp [intOf]; omega
      · have e3 : ¬ (0 : Int) < (z : Int) := by omega
        go_wp2_with fail
        refine HR.out.mono ?_
        rintro e w5 ⟨rfl, F5, hy5⟩
        have HY5 := Lib.hid (HY.out.trans hy5)
        have ap5 : ∀ a, F5 a → ¬ (Value.slice (some ⟨bb, off, none⟩) n c).ownBlock = some a ∧ ¬ (Value.slice V r d).ownBlock = some a := fun a ha => by
          rcases hy5.2.1 a ha with e | e
          · exact HAP.out a e
          · exact ⟨fun e2 => by have := HLT.out a e2; have := HSZ.out; omega, fun e2 => by have := HVL.out a e2; omega⟩
        have HAP5 := Lib.hid ap5
        have HO5 := Lib.hid (HO.out.turned hy5.2.2 fun a ha e => (HAP.out a e).2 ha)
        have HU5 := Lib.hid (HUU.out.turned hy5.2.2 fun a ha e => (HAP.out a e).1 ha)
        have HZ5 := Lib.hid hy5.2.2.size
        clear hy5 ap5 hcell HR
        go_wp2_with fail
        go_roundw
        case rel => exact ⟨m + 1, r, d, V, F5, by omega, by omega, by go_num, rfl, by rw [rksOf_same L HX.out (by rw [HZ.out]; omega)]; exact HO5.out, HU5.out, HY5.out, HAP5.out, Nat.le_trans HSZ.out HZ5.out⟩
        case measure => simp [intOf]; omega
    · obtain rfl : n = m := by omega
      have HT : Hid ((winL b k).take n = winL b k) := List.take_of_length_le (Nat.le_of_eq HL.out)
      go_wp2_with fail
      go_ret
      have := HO.out
      rw [HT.out] at this
      exact ⟨V, r, d, F', rfl, this.lower HS2.out, HY.out⟩
end
end Go.Proofs.YtcjjhblgejkkeaaGreat
/- The document's own relay: Move. -/
namespace Go.Proofs.YtcjjhblgejkkeaaGreat
open Go.RowKit Lin
set_option linter.unusedVariables false
set_option linter.unusedSimpArgs false
theorem pw_of {α : Type} {G : List α} {R : α → α → Prop} (h : ∀ (i j : Nat) (x y : α), i < j → G[i]? = some x → G[j]? = some y → R x y) : G.Pairwise R :=
  List.pairwise_iff_getElem.2 fun i j hi hj hij => h i j _ _ hij (List.getElem?_eq_getElem hi) (List.getElem?_eq_getElem hj)
theorem of_pw {α : Type} {G : List α} {R : α → α → Prop} (h : G.Pairwise R) : ∀ (i j : Nat) (x y : α), i < j → G[i]? = some x → G[j]? = some y → R x y := fun i j x y hij hx hy => by
  obtain ⟨hi, rfl⟩ := List.getElem?_eq_some_iff.1 hx
  obtain ⟨hj, rfl⟩ := List.getElem?_eq_some_iff.1 hy
  exact List.pairwise_iff_getElem.1 h i j hi hj hij
section
variable {w w' w0 w1 w2 : World} {F H F2 F3 : Nat → Prop} {p g s k b wb n c : Nat} {L L' : Nat → List (List Nat)} {A : Option Addr} {G : List GenS}
/-- Those that are still in the window stay. -/
theorem RefYA.sift {c' base r d : Nat} {V : Option Addr} (h : RefYA w F p g s k b L wb A n c G) (t : Turned (fun a => a = wb) w w1) (hw : RefW w1 wb k c') (kp : Keep w1 w2) (ho : OwnGn w2 base V r d (gnL (G.filter fun x => winIn c' k x.n))) (hb : w.heap.size ≤ base) :
    YNext w (w2.setCell ⟨p, 3, none⟩ (.slice V r d)) F (fun a => F a ∨ (Value.slice V r d).ownBlock = some a) p g s k c' (moveL c' k L) := by
  have ts : Turned (fun a => a = p) w2 (w2.setCell ⟨p, 3, none⟩ (.slice V r d)) := Turned.set (F := fun a => a = p) w2 ⟨p, 3, none⟩ _ rfl
  have own : ∀ a, (Value.slice V r d).ownBlock = some a → base ≤ a := ho.rowLe
  have hpl := h.lt p h.fp
  have hwl := h.lt wb h.fw
  have hp2 : w2.heap[p]? = w.heap[p]? := (kp.block p (Nat.lt_of_lt_of_le hpl t.size)).trans (t.block p hpl h.ne.1)
  have mem : ∀ x ∈ G.filter fun x => winIn c' k x.n, x ∈ G ∧ winIn c' k x.n = true := fun x hx => by
    have := List.mem_filter.1 hx; exact ⟨this.1, by simpa using this.2⟩
  have tt : Turned F w (w2.setCell ⟨p, 3, none⟩ (.slice V r d)) := (((Turned.refl F w).trans t fun j e => Or.inl (e ▸ h.fw)).trans (Turned.of_keep (F := F) kp) fun j e => Or.inl e).trans (Turned.set (F := F) w2 ⟨p, 3, none⟩ _ h.fp) fun j e => Or.inl e
  refine ⟨RefYA.r (wb := wb) (A := V) (n := r) (c := d) (G := G.filter fun x => winIn c' k x.n) ⟨?_, (hw.keep kp).turned ts fun e => h.ne.1 e.symm, (ho.turned ts fun a ha e => by have := own a ha; omega).lower (Nat.zero_le _), fun x hx => ?_, of_pw ((pw_of h.up).filter _), fun x hx => (mem x hx).2, fun i j x y hij hx hy => ?_, fun x hx a ha => ?_, ⟨h.ne.1, fun a ha => by have := own a ha; exact ⟨by omega, by omega⟩⟩, Or.inl h.fp, Or.inl h.fw, fun a ha => Or.inr ha, fun x hx a ha => Or.inl (h.fx x (mem x hx).1 a ha), fun a ha => ?_, h.g1, h.g2, h.s1, h.s2, fun x hx => ?_, fun m hm => ?_⟩, fun j e => e.imp id fun e => Nat.le_trans hb (own j e), tt⟩
  · rw [bset (hp2.trans h.block)]; rfl
  · have h1 := mem x hx
    exact (((h.ok x h1.1).turned t fun a ha e => (h.off x h1.1 a ha).2.1 e).turned (Turned.of_keep (F := fun _ => False) kp) fun _ _ e => e).turned ts fun a ha e => (h.off x h1.1 a ha).1 e
  · have hpw : (G.filter fun x => winIn c' k x.n).Pairwise fun x y => ∀ a, x.F a → ¬ y.F a := (pw_of fun i j x y hij hx hy => h.ap i j x y (by omega) hx hy).filter _
    rcases Nat.lt_or_ge i j with e | e
    · exact of_pw hpw i j x y e hx hy
    · exact fun a ha hb2 => of_pw hpw j i y x (by omega) hy hx a hb2 ha
  · have h1 := mem x hx
    have h2 := h.off x h1.1 a ha
    have h3 := h.lt a (h.fx x h1.1 a ha)
    exact ⟨h2.1, h2.2.1, fun e => by have := own a e; omega⟩
  · rcases ha with ha | ha
    · exact Nat.lt_of_lt_of_le (h.lt a ha) tt.size
    · exact Nat.lt_of_lt_of_le (World.ownsRow.lt ho a ha).2 ts.size
  · have h1 := mem x hx
    rw [moveL, if_pos h1.2]; exact h.l x h1.1
  · unfold moveL
    split
    · next hi => exact h.no m fun x hx e => hm x (List.mem_filter.2 ⟨hx, by rw [e]; simpa using hi⟩) e
    · rfl
theorem sift_more (c' k : Nat) {G : List GenS} {i : Nat} {x : GenS} (hx : G[i]? = some x) (h : winIn c' k x.n = true) : gnL ((G.take (i + 1)).filter fun x => winIn c' k x.n) = gnL ((G.take i).filter fun x => winIn c' k x.n) ++ [(x.n, x.q)] := by
  rw [List.take_add_one, hx, List.filter_append]
  simp [gnL, h]
theorem sift_same (c' k : Nat) {G : List GenS} {i : Nat} {x : GenS} (hx : G[i]? = some x) (h : winIn c' k x.n = false) : gnL ((G.take (i + 1)).filter fun x => winIn c' k x.n) = gnL ((G.take i).filter fun x => winIn c' k x.n) := by
  rw [List.take_add_one, hx, List.filter_append]
  simp [gnL, h]
theorem moveL_self (h : RefY w F p g s k b L) : moveL b k L = L := funext fun m => by
  unfold moveL
  split
  · rfl
  · next hi => exact (h.out (by simpa using hi)).symm
end
section
variable {w : World} {F : Nat → Prop} {p g s k b : Nat} {L : Nat → List (List Nat)}
set_option maxRecDepth 100000 in
set_option maxHeartbeats 2000000 in
theorem ymove_in (h : RefY w F p g s k b L) (c' : Nat) (hc : c' ≤ topN) :
    Calls Tryz.prog 18 #[.pointer (some ⟨p, 0, none⟩), .int .u64 (c' : Int)] w fun e w' => e = .returned (.int .i64 0) ∧ ∃ F', YNext w w' F F' p g s k c' (moveL c' k L) := by
  obtain ⟨wb, A, n, c, G, h⟩ := h
  have c2 := h.c2
  have HMV := Lib.hid (rmove_in c' hc h.win)
  have H := Lib.hid h
  have hn16 : n ≤ 16 := Nat.le_trans h.short h.win.high
  clear h
  go_enter Tryz.func18, Tryz.ntmps18
  go_wp2_with fail
  refine HMV.out.mono ?_
  rintro e w1 ⟨A1, n1, q1, rfl, -, hwx, tx⟩
  have hw1 : RefW w1 wb k c' := hwx
  have t1 : Turned (fun a => a = wb) w w1 := tx
  skip
  have hpb : w1.heap[p]? = _ := (t1.block p (H.out.lt p H.out.fp) H.out.ne.1).trans H.out.block
  have c21 : w1.cell? ⟨p, 2, none⟩ = some (.pointer (some ⟨wb, 0, none⟩)) := cell_of_row _ _ _ _ _ _ hpb
  have c31 : w1.cell? ⟨p, 3, none⟩ = some (.slice A n c) := cell_of_row _ _ _ _ _ _ hpb
  have HPB := Lib.hid hpb
  have HPL1 : Hid (p < w1.heap.size) := Nat.lt_of_lt_of_le (H.out.lt p H.out.fp) t1.size
  have HGN := Lib.hid (H.out.own.turned t1 fun a ha e => (H.out.ne.2 a ha).2 e).insO
  have HW1 := Lib.hid hw1
  have HT1 := Lib.hid t1
  have HC := Lib.hid (And.intro c21 c31)
  clear hpb hw1 t1 HMV c2
  go_wp2_with fail
  go_loopw [7, 8] (fun v iv wr => ∃ (i r d : Nat) (V : Option Addr), i ≤ n ∧ r ≤ i ∧ iv = .int .i64 (i : Int) ∧ v = .slice V r d ∧ Keep w1 wr ∧ OwnGn wr w1.heap.size V r d (gnL ((G.take i).filter fun x => winIn c' k x.n))) (fun _ iv _ => n - (intOf iv).toNat)
  case atStart => exact ⟨0, 0, 0, none, by omega, by omega, rfl, rfl, Keep.refl _, OwnGn.none_ _ _⟩
  case round =>
    clear c21 c31
    obtain ⟨i, r, d, V, hi, hr, rfl, rfl, hk, hO⟩ := hrel
    have HK := Lib.hid hk
    have HO := Lib.hid hO
    have HPL : Hid (p < wr.heap.size) := Nat.lt_of_lt_of_le HPL1.out hk.size
    have c2r := (World.cell?_of_block (a := ⟨p, 2, none⟩) (hk.block p HPL1.out)).trans HC.out.1
    have c3r := (World.cell?_of_block (a := ⟨p, 3, none⟩) (hk.block p HPL1.out)).trans HC.out.2
    clear hk hO
    have e0 : (0 : Int) ≤ (i : Int) := Int.natCast_nonneg _
    by_cases hlt : i < n
    · have e1 : (i : Int) < (n : Int) := by omega
      obtain ⟨bb, off, y, rfl, hb1, hb2, hy, hc1, hc2⟩ := (HGN.out.keep HK.out).at_ hlt
      obtain ⟨x, hx, rfl⟩ : ∃ x, G[i]? = some x ∧ y = (x.n, x.q) := by
        unfold gnL at hy
        rw [List.getElem?_map] at hy
        cases hg : G[i]? with
        | none => rw [hg] at hy; cases hy
        | some x => rw [hg] at hy; injection hy with hy; exact ⟨x, rfl, hy.symm⟩
      have HX := Lib.hid hx
      obtain ⟨xn, hxn⟩ : ∃ v, x.n = v := ⟨_, rfl⟩
      obtain ⟨xq, hxq⟩ : ∃ v, x.q = v := ⟨_, rfl⟩
      replace hc1 : wr.cell? ⟨bb, off + i * 2, none⟩ = some (.int .u64 (xn : Int)) := by rw [← hxn]; exact hc1
      replace hc2 : wr.cell? ⟨bb, off + i * 2 + 1, none⟩ = some (.pointer (some ⟨xq, 0, none⟩)) := by rw [← hxq]; exact hc2
      have HXN := Lib.hid (And.intro hxn hxq)
      have HBB := Lib.hid hb2
      have hin := fun (w' : World) (kw : Keep wr w') => rin_any xn (HW1.out.keep (HK.out.trans kw))
      have HIN := Lib.hid hin
      clear hb1 hb2 hy hx hxn hxq hin
      cases hwi : winIn c' k xn with
      | true =>
        rw [hwi] at HIN
        have HWI := Lib.hid hwi
        clear hwi
        go_upto_region 6 with fail
        refine wp_region_noPanic ?_
        refine wp_region_held_drew (S := fun wz => wz.cell? ⟨p, 2, none⟩ = some (.pointer (some ⟨wb, 0, none⟩)) ∧ wz.cell? ⟨p, 3, none⟩ = some (.slice (some ⟨bb, off, none⟩) n c) ∧ wz.cell? ⟨bb, off + i * 2, none⟩ = some (.int .u64 (xn : Int))) (by kernel_rfl) ⟨c2r, c3r, hc1⟩ (fun hHeld => ?_)
        refine wpAnyH_take (i := 0) (v := ?_) rfl (by kernel_rfl) (by kernel_rfl) (by kernel_rfl) (fun _ _ _ h => h) (Or.inl ⟨by rfl, ?_⟩) hHeld ?_
        rotate_left
        · intro wq hSw
          go_simp
          all_goals with_reducible rfl
        try simp only [Act.put, List.getElem_toArray, List.getElem_cons_succ, List.getElem_cons_zero, List.setIfInBounds_toArray, List.set_cons_zero, List.set_cons_succ]
        refine wpAnyH_take (i := 1) (v := ?_) rfl (by kernel_rfl) (by kernel_rfl) (by kernel_rfl) (fun _ _ _ h => h) (Or.inl ⟨by rfl, ?_⟩) hHeld ?_
        rotate_left
        · intro wq hSw
          go_simp
          all_goals with_reducible rfl
        try simp only [Act.put, List.getElem_toArray, List.getElem_cons_succ, List.getElem_cons_zero, List.setIfInBounds_toArray, List.set_cons_zero, List.set_cons_succ]
        refine wpAnyH_take (i := 2) (v := ?_) rfl (by kernel_rfl) (by kernel_rfl) (by kernel_rfl) (fun _ _ _ h => h) (Or.inl ⟨by rfl, ?_⟩) hHeld ?_
        rotate_left
        · intro wq hSw
          go_simp
          all_goals with_reducible rfl
        try simp only [Act.put, List.getElem_toArray, List.getElem_cons_succ, List.getElem_cons_zero, List.setIfInBounds_toArray, List.set_cons_zero, List.set_cons_succ]
        refine wpAnyH_take (i := 3) (v := ?_) rfl (by kernel_rfl) (by kernel_rfl) (by kernel_rfl) (fun _ _ _ h => h) (Or.inl ⟨by rfl, ?_⟩) hHeld ?_
        rotate_left
        · intro wq hSw
          have q0 := hSw.1
          go_simp
          all_goals with_reducible rfl
        try simp only [Act.put, List.getElem_toArray, List.getElem_cons_succ, List.getElem_cons_zero, List.setIfInBounds_toArray, List.set_cons_zero, List.set_cons_succ]
        refine wpAnyH_take (i := 4) (v := ?_) rfl (by kernel_rfl) (by kernel_rfl) (by kernel_rfl) (fun _ _ _ h => h) (Or.inl ⟨by rfl, ?_⟩) hHeld ?_
        rotate_left
        · intro wq hSw
          go_simp
          all_goals with_reducible rfl
        try simp only [Act.put, List.getElem_toArray, List.getElem_cons_succ, List.getElem_cons_zero, List.setIfInBounds_toArray, List.set_cons_zero, List.set_cons_succ]
        refine wpAnyH_take (i := 5) (v := ?_) rfl (by kernel_rfl) (by kernel_rfl) (by kernel_rfl) (fun _ _ _ h => h) (Or.inl ⟨by rfl, ?_⟩) hHeld ?_
        rotate_left
        · intro wq hSw
          go_simp
          all_goals with_reducible rfl
        try simp only [Act.put, List.getElem_toArray, List.getElem_cons_succ, List.getElem_cons_zero, List.setIfInBounds_toArray, List.set_cons_zero, List.set_cons_succ]
        refine wpAnyH_take (i := 6) (v := ?_) rfl (by kernel_rfl) (by kernel_rfl) (by kernel_rfl) (fun _ _ _ h => h) (Or.inl ⟨by rfl, ?_⟩) hHeld ?_
        rotate_left
        · intro wq hSw
          go_simp
          all_goals with_reducible rfl
        try simp only [Act.put, List.getElem_toArray, List.getElem_cons_succ, List.getElem_cons_zero, List.setIfInBounds_toArray, List.set_cons_zero, List.set_cons_succ]
        refine wpAnyH_take (i := 7) (v := ?_) rfl (by kernel_rfl) (by kernel_rfl) (by kernel_rfl) (fun _ _ _ h => h) (Or.inl ⟨by rfl, ?_⟩) hHeld ?_
        rotate_left
        · intro wq hSw
          have q0 := hSw.2.1
          go_simp
          all_goals with_reducible rfl
        try simp only [Act.put, List.getElem_toArray, List.getElem_cons_succ, List.getElem_cons_zero, List.setIfInBounds_toArray, List.set_cons_zero, List.set_cons_succ]
        refine wpAnyH_take (i := 8) (v := ?_) rfl (by kernel_rfl) (by kernel_rfl) (by kernel_rfl) (fun _ _ _ h => h) (Or.inl ⟨by rfl, ?_⟩) hHeld ?_
        rotate_left
        · intro wq hSw
          go_simp
          all_goals with_reducible rfl
        try simp only [Act.put, List.getElem_toArray, List.getElem_cons_succ, List.getElem_cons_zero, List.setIfInBounds_toArray, List.set_cons_zero, List.set_cons_succ]
        refine wpAnyH_take (i := 9) (v := ?_) rfl (by kernel_rfl) (by kernel_rfl) (by kernel_rfl) (fun _ _ _ h => h) (Or.inl ⟨by rfl, ?_⟩) hHeld ?_
        rotate_left
        · intro wq hSw
          have q0 := e0
          have q1 := e1
          go_simp
          all_goals with_reducible rfl
        try simp only [Act.put, List.getElem_toArray, List.getElem_cons_succ, List.getElem_cons_zero, List.setIfInBounds_toArray, List.set_cons_zero, List.set_cons_succ]
        refine wpAnyH_take (i := 10) (v := ?_) rfl (by kernel_rfl) (by kernel_rfl) (by kernel_rfl) (fun _ _ _ h => h) (Or.inl ⟨by rfl, ?_⟩) hHeld ?_
        rotate_left
        · intro wq hSw
          go_simp
          all_goals with_reducible rfl
        try simp only [Act.put, List.getElem_toArray, List.getElem_cons_succ, List.getElem_cons_zero, List.setIfInBounds_toArray, List.set_cons_zero, List.set_cons_succ]
        refine wpAnyH_take (i := 11) (v := ?_) rfl (by kernel_rfl) (by kernel_rfl) (by kernel_rfl) (fun _ _ _ h => h) (Or.inl ⟨by rfl, ?_⟩) hHeld ?_
        rotate_left
        · intro wq hSw
          have q0 := hSw.2.2
          go_simp
          all_goals with_reducible rfl
        try simp only [Act.put, List.getElem_toArray, List.getElem_cons_succ, List.getElem_cons_zero, List.setIfInBounds_toArray, List.set_cons_zero, List.set_cons_succ]
        refine wpAnyH_ready (rs := [12]) (by kernel_rfl) (by simp) ?_
        refine AllReadyH.cons rfl (fun K hK => ?_) AllReadyH.nil
        go_simp
        refine (HIN.out _ (Keep.drew (Keep.refl _))).mono ?_
        rintro e w5 ⟨rfl, k5⟩
        have k5' : Keep wr w5 := (Keep.drew (Keep.refl wr)).trans k5
        have hq5 : w5.cell? ⟨p, 2, none⟩ = some (.pointer (some ⟨wb, 0, none⟩)) ∧ w5.cell? ⟨p, 3, none⟩ = some (.slice (some ⟨bb, off, none⟩) n c) ∧ w5.cell? ⟨bb, off + i * 2, none⟩ = some (.int .u64 (xn : Int)) := ⟨(World.cell?_of_block (k5'.block _ HPL.out)).trans c2r, (World.cell?_of_block (k5'.block _ HPL.out)).trans c3r, (World.cell?_of_block (k5'.block _ HBB.out)).trans hc1⟩
        have hc25 : w5.cell? ⟨bb, off + i * 2 + 1, none⟩ = some (.pointer (some ⟨xq, 0, none⟩)) := (World.cell?_of_block (k5'.block _ HBB.out)).trans hc2
        have HK5 := Lib.hid k5'
        clear k5 k5'
        refine hK.out _ _ hq5 (fun hHeld => ?_)
        clear hK K
        try simp only [Act.put, List.getElem_toArray, List.getElem_cons_succ, List.getElem_cons_zero, List.setIfInBounds_toArray, List.set_cons_zero, List.set_cons_succ]
        refine wpAnyH_done (by kernel_rfl) ?_ _
        refine NoPanic.normal ?_
        clear hHeld
        obtain ⟨q1, q2, q3⟩ := hq5
        have HO5 := Lib.hid (HO.out.keep HK5.out)
        have HS5 := Lib.hid (HK.out.trans HK5.out)
        clear hc1 hc2 c2r c3r
        go_wp2_with (at_builtin; refine wpList_append_gns rfl _ _ 65 rfl (m := 1) (news := [(xn, xq)]) (Eq.refl (r + 1)) Tryz.underlying65 rfl (HO5.out.alloc _) rfl rfl (fun _ => ⟨w5.heap.size, 0, rfl, fun j p hj => by
            have hj0 : j = 0 := by
              rcases j with _ | j
              · rfl
              · simp at hj
            subst hj0
            injection hj with hj
            subst hj
            exact ⟨cell_of_row _ _ _ _ _ _ (heap_alloc_new _ _), cell_of_row _ _ _ _ _ _ (heap_alloc_new _ _)⟩⟩) (by omega) (by have := HS5.out.size; simp; omega) ?_)
        intro A8 c8 w8 o8 g8 b8
        have HK8 : Hid (Keep w1 w8) := (HS5.out.trans ((Keep.refl w5).alloc _ _)).grown g8 fun k hk => HO5.out.rowLe k hk
        have HO8 : Hid (OwnGn w8 w1.heap.size A8 (r + 1) c8 (gnL ((G.take (i + 1)).filter fun x => winIn c' k x.n))) := by
          show OwnGn _ _ _ _ _ _
          rw [sift_more c' k HX.out (by rw [HXN.out.1]; exact HWI.out), HXN.out.1, HXN.out.2]; exact o8
        clear o8 g8 b8 q1 q2 q3 hc25
        go_wp2_with fail
        go_roundw
        case rel => exact ⟨i + 1, r + 1, c8, A8, by omega, by omega, by go_num, rfl, HK8.out, HO8.out⟩
        case measure => simp [intOf]; omega
      | false =>
        rw [hwi] at HIN
        have HWI := Lib.hid hwi
        clear hwi
        go_upto_region 6 with fail
        refine wp_region_noPanic ?_
        refine wp_region_held_drew (S := fun wz => wz.cell? ⟨p, 2, none⟩ = some (.pointer (some ⟨wb, 0, none⟩)) ∧ wz.cell? ⟨p, 3, none⟩ = some (.slice (some ⟨bb, off, none⟩) n c) ∧ wz.cell? ⟨bb, off + i * 2, none⟩ = some (.int .u64 (xn : Int))) (by kernel_rfl) ⟨c2r, c3r, hc1⟩ (fun hHeld => ?_)
        refine wpAnyH_take (i := 0) (v := ?_) rfl (by kernel_rfl) (by kernel_rfl) (by kernel_rfl) (fun _ _ _ h => h) (Or.inl ⟨by rfl, ?_⟩) hHeld ?_
        rotate_left
        · intro wq hSw
          go_simp
          all_goals with_reducible rfl
        try simp only [Act.put, List.getElem_toArray, List.getElem_cons_succ, List.getElem_cons_zero, List.setIfInBounds_toArray, List.set_cons_zero, List.set_cons_succ]
        refine wpAnyH_take (i := 1) (v := ?_) rfl (by kernel_rfl) (by kernel_rfl) (by kernel_rfl) (fun _ _ _ h => h) (Or.inl ⟨by rfl, ?_⟩) hHeld ?_
        rotate_left
        · intro wq hSw
          go_simp
          all_goals with_reducible rfl
        try simp only [Act.put, List.getElem_toArray, List.getElem_cons_succ, List.getElem_cons_zero, List.setIfInBounds_toArray, List.set_cons_zero, List.set_cons_succ]
        refine wpAnyH_take (i := 2) (v := ?_) rfl (by kernel_rfl) (by kernel_rfl) (by kernel_rfl) (fun _ _ _ h => h) (Or.inl ⟨by rfl, ?_⟩) hHeld ?_
        rotate_left
        · intro wq hSw
          go_simp
          all_goals with_reducible rfl
        try simp only [Act.put, List.getElem_toArray, List.getElem_cons_succ, List.getElem_cons_zero, List.setIfInBounds_toArray, List.set_cons_zero, List.set_cons_succ]
        refine wpAnyH_take (i := 3) (v := ?_) rfl (by kernel_rfl) (by kernel_rfl) (by kernel_rfl) (fun _ _ _ h => h) (Or.inl ⟨by rfl, ?_⟩) hHeld ?_
        rotate_left
        · intro wq hSw
          have q0 := hSw.1
          go_simp
          all_goals with_reducible rfl
        try simp only [Act.put, List.getElem_toArray, List.getElem_cons_succ, List.getElem_cons_zero, List.setIfInBounds_toArray, List.set_cons_zero, List.set_cons_succ]
        refine wpAnyH_take (i := 4) (v := ?_) rfl (by kernel_rfl) (by kernel_rfl) (by kernel_rfl) (fun _ _ _ h => h) (Or.inl ⟨by rfl, ?_⟩) hHeld ?_
        rotate_left
        · intro wq hSw
          go_simp
          all_goals with_reducible rfl
        try simp only [Act.put, List.getElem_toArray, List.getElem_cons_succ, List.getElem_cons_zero, List.setIfInBounds_toArray, List.set_cons_zero, List.set_cons_succ]
        refine wpAnyH_take (i := 5) (v := ?_) rfl (by kernel_rfl) (by kernel_rfl) (by kernel_rfl) (fun _ _ _ h => h) (Or.inl ⟨by rfl, ?_⟩) hHeld ?_
        rotate_left
        · intro wq hSw
          go_simp
          all_goals with_reducible rfl
        try simp only [Act.put, List.getElem_toArray, List.getElem_cons_succ, List.getElem_cons_zero, List.setIfInBounds_toArray, List.set_cons_zero, List.set_cons_succ]
        refine wpAnyH_take (i := 6) (v := ?_) rfl (by kernel_rfl) (by kernel_rfl) (by kernel_rfl) (fun _ _ _ h => h) (Or.inl ⟨by rfl, ?_⟩) hHeld ?_
        rotate_left
        · intro wq hSw
          go_simp
          all_goals with_reducible rfl
        try simp only [Act.put, List.getElem_toArray, List.getElem_cons_succ, List.getElem_cons_zero, List.setIfInBounds_toArray, List.set_cons_zero, List.set_cons_succ]
        refine wpAnyH_take (i := 7) (v := ?_) rfl (by kernel_rfl) (by kernel_rfl) (by kernel_rfl) (fun _ _ _ h => h) (Or.inl ⟨by rfl, ?_⟩) hHeld ?_
        rotate_left
        · intro wq hSw
          have q0 := hSw.2.1
          go_simp
          all_goals with_reducible rfl
        try simp only [Act.put, List.getElem_toArray, List.getElem_cons_succ, List.getElem_cons_zero, List.setIfInBounds_toArray, List.set_cons_zero, List.set_cons_succ]
        refine wpAnyH_take (i := 8) (v := ?_) rfl (by kernel_rfl) (by kernel_rfl) (by kernel_rfl) (fun _ _ _ h => h) (Or.inl ⟨by rfl, ?_⟩) hHeld ?_
        rotate_left
        · intro wq hSw
          go_simp
          all_goals with_reducible rfl
        try simp only [Act.put, List.getElem_toArray, List.getElem_cons_succ, List.getElem_cons_zero, List.setIfInBounds_toArray, List.set_cons_zero, List.set_cons_succ]
        refine wpAnyH_take (i := 9) (v := ?_) rfl (by kernel_rfl) (by kernel_rfl) (by kernel_rfl) (fun _ _ _ h => h) (Or.inl ⟨by rfl, ?_⟩) hHeld ?_
        rotate_left
        · intro wq hSw
          have q0 := e0
          have q1 := e1
          go_simp
          all_goals with_reducible rfl
        try simp only [Act.put, List.getElem_toArray, List.getElem_cons_succ, List.getElem_cons_zero, List.setIfInBounds_toArray, List.set_cons_zero, List.set_cons_succ]
        refine wpAnyH_take (i := 10) (v := ?_) rfl (by kernel_rfl) (by kernel_rfl) (by kernel_rfl) (fun _ _ _ h => h) (Or.inl ⟨by rfl, ?_⟩) hHeld ?_
        rotate_left
        · intro wq hSw
          go_simp
          all_goals with_reducible rfl
        try simp only [Act.put, List.getElem_toArray, List.getElem_cons_succ, List.getElem_cons_zero, List.setIfInBounds_toArray, List.set_cons_zero, List.set_cons_succ]
        refine wpAnyH_take (i := 11) (v := ?_) rfl (by kernel_rfl) (by kernel_rfl) (by kernel_rfl) (fun _ _ _ h => h) (Or.inl ⟨by rfl, ?_⟩) hHeld ?_
        rotate_left
        · intro wq hSw
          have q0 := hSw.2.2
          go_simp
          all_goals with_reducible rfl
        try simp only [Act.put, List.getElem_toArray, List.getElem_cons_succ, List.getElem_cons_zero, List.setIfInBounds_toArray, List.set_cons_zero, List.set_cons_succ]
        refine wpAnyH_ready (rs := [12]) (by kernel_rfl) (by simp) ?_
        refine AllReadyH.cons rfl (fun K hK => ?_) AllReadyH.nil
        go_simp
        refine (HIN.out _ (Keep.drew (Keep.refl _))).mono ?_
        rintro e w5 ⟨rfl, k5⟩
        have k5' : Keep wr w5 := (Keep.drew (Keep.refl wr)).trans k5
        have hq5 : w5.cell? ⟨p, 2, none⟩ = some (.pointer (some ⟨wb, 0, none⟩)) ∧ w5.cell? ⟨p, 3, none⟩ = some (.slice (some ⟨bb, off, none⟩) n c) ∧ w5.cell? ⟨bb, off + i * 2, none⟩ = some (.int .u64 (xn : Int)) := ⟨(World.cell?_of_block (k5'.block _ HPL.out)).trans c2r, (World.cell?_of_block (k5'.block _ HPL.out)).trans c3r, (World.cell?_of_block (k5'.block _ HBB.out)).trans hc1⟩
        have hc25 : w5.cell? ⟨bb, off + i * 2 + 1, none⟩ = some (.pointer (some ⟨xq, 0, none⟩)) := (World.cell?_of_block (k5'.block _ HBB.out)).trans hc2
        have HK5 := Lib.hid k5'
        clear k5 k5'
        refine hK.out _ _ hq5 (fun hHeld => ?_)
        clear hK K
        try simp only [Act.put, List.getElem_toArray, List.getElem_cons_succ, List.getElem_cons_zero, List.setIfInBounds_toArray, List.set_cons_zero, List.set_cons_succ]
        refine wpAnyH_done (by kernel_rfl) ?_ _
        refine NoPanic.normal ?_
        clear hHeld
        clear hc1 hc2 c2r c3r hq5 hc25
        have HS5 := Lib.hid (HK.out.trans HK5.out)
        have HO5 : Hid (OwnGn w5 w1.heap.size V r d (gnL ((G.take (i + 1)).filter fun x => winIn c' k x.n))) := by
          show OwnGn _ _ _ _ _ _
          rw [sift_same c' k HX.out (by rw [HXN.out.1]; exact HWI.out)]; exact HO.out.keep HK5.out
        go_wp2_with fail
        go_roundw
        case rel => exact ⟨i + 1, r, d, V, by omega, by omega, by go_num, rfl, HS5.out, HO5.out⟩
        case measure => simp [intOf]; omega
    · have e1 : ¬ (i : Int) < (n : Int) := by omega
      have e1' : decide ((i : Int) < (n : Int)) = false := decide_eq_false e1
      have hfr : wr.frozen? ⟨p, 3, none⟩ = false := by
        have hb : wr.heap[p]? = _ := (HK.out.block p HPL1.out).trans HPB.out
        simp [World.frozen?, hb]
      have HLEN : Hid (G.take i = G) := List.take_of_length_le (by have := H.out.len; omega)
      go_wp2_with fail
      go_ret
      have ho := HO.out
      rw [HLEN.out] at ho
      have hs := H.out.sift HT1.out HW1.out HK.out ho (HT1.out.size)
      exact ⟨rfl, _, hs⟩
set_option maxRecDepth 100000 in
set_option maxHeartbeats 2000000 in
theorem ymove_out (h : RefY w F p g s k b L) (c' : Nat) (hc : topN < c') :
    Calls Tryz.prog 18 #[.pointer (some ⟨p, 0, none⟩), .int .u64 (c' : Int)] w fun e w' => e = .returned (.int .i64 1) ∧ ∃ F', YNext w w' F F' p g s k b L := by
  obtain ⟨wb, A, n, c, G, h⟩ := h
  have c2 := h.c2
  have HMV := Lib.hid (rmove_out (g := wb) c' hc w)
  have H := Lib.hid h
  have hn16 : n ≤ 16 := Nat.le_trans h.short h.win.high
  clear h
  go_enter Tryz.func18, Tryz.ntmps18
  go_wp2_with fail
  refine HMV.out.mono ?_
  rintro e w1 ⟨rfl, hww⟩
  have hw1 : RefW w1 wb k b := hww ▸ H.out.win
  have t1 : Turned (fun a => a = wb) w w1 := hww ▸ Turned.refl _ _
  clear hww
  have hpb : w1.heap[p]? = _ := (t1.block p (H.out.lt p H.out.fp) H.out.ne.1).trans H.out.block
  have c21 : w1.cell? ⟨p, 2, none⟩ = some (.pointer (some ⟨wb, 0, none⟩)) := cell_of_row _ _ _ _ _ _ hpb
  have c31 : w1.cell? ⟨p, 3, none⟩ = some (.slice A n c) := cell_of_row _ _ _ _ _ _ hpb
  have HPB := Lib.hid hpb
  have HPL1 : Hid (p < w1.heap.size) := Nat.lt_of_lt_of_le (H.out.lt p H.out.fp) t1.size
  have HGN := Lib.hid (H.out.own.turned t1 fun a ha e => (H.out.ne.2 a ha).2 e).insO
  have HW1 := Lib.hid hw1
  have HT1 := Lib.hid t1
  have HC := Lib.hid (And.intro c21 c31)
  clear hpb hw1 t1 HMV c2
  go_wp2_with fail
  go_loopw [7, 8] (fun v iv wr => ∃ (i r d : Nat) (V : Option Addr), i ≤ n ∧ r ≤ i ∧ iv = .int .i64 (i : Int) ∧ v = .slice V r d ∧ Keep w1 wr ∧ OwnGn wr w1.heap.size V r d (gnL ((G.take i).filter fun x => winIn b k x.n))) (fun _ iv _ => n - (intOf iv).toNat)
  case atStart => exact ⟨0, 0, 0, none, by omega, by omega, rfl, rfl, Keep.refl _, OwnGn.none_ _ _⟩
  case round =>
    clear c21 c31
    obtain ⟨i, r, d, V, hi, hr, rfl, rfl, hk, hO⟩ := hrel
    have HK := Lib.hid hk
    have HO := Lib.hid hO
    have HPL : Hid (p < wr.heap.size) := Nat.lt_of_lt_of_le HPL1.out hk.size
    have c2r := (World.cell?_of_block (a := ⟨p, 2, none⟩) (hk.block p HPL1.out)).trans HC.out.1
    have c3r := (World.cell?_of_block (a := ⟨p, 3, none⟩) (hk.block p HPL1.out)).trans HC.out.2
    clear hk hO
    have e0 : (0 : Int) ≤ (i : Int) := Int.natCast_nonneg _
    by_cases hlt : i < n
    · have e1 : (i : Int) < (n : Int) := by omega
      obtain ⟨bb, off, y, rfl, hb1, hb2, hy, hc1, hc2⟩ := (HGN.out.keep HK.out).at_ hlt
      obtain ⟨x, hx, rfl⟩ : ∃ x, G[i]? = some x ∧ y = (x.n, x.q) := by
        unfold gnL at hy
        rw [List.getElem?_map] at hy
        cases hg : G[i]? with
        | none => rw [hg] at hy; cases hy
        | some x => rw [hg] at hy; injection hy with hy; exact ⟨x, rfl, hy.symm⟩
      have HX := Lib.hid hx
      obtain ⟨xn, hxn⟩ : ∃ v, x.n = v := ⟨_, rfl⟩
      obtain ⟨xq, hxq⟩ : ∃ v, x.q = v := ⟨_, rfl⟩
      replace hc1 : wr.cell? ⟨bb, off + i * 2, none⟩ = some (.int .u64 (xn : Int)) := by rw [← hxn]; exact hc1
      replace hc2 : wr.cell? ⟨bb, off + i * 2 + 1, none⟩ = some (.pointer (some ⟨xq, 0, none⟩)) := by rw [← hxq]; exact hc2
      have HXN := Lib.hid (And.intro hxn hxq)
      have HBB := Lib.hid hb2
      have hin := fun (w' : World) (kw : Keep wr w') => rin_any xn (HW1.out.keep (HK.out.trans kw))
      have HIN := Lib.hid hin
      clear hb1 hb2 hy hx hxn hxq hin
      cases hwi : winIn b k xn with
      | true =>
        rw [hwi] at HIN
        have HWI := Lib.hid hwi
        clear hwi
        go_upto_region 6 with fail
        refine wp_region_noPanic ?_
        refine wp_region_held_drew (S := fun wz => wz.cell? ⟨p, 2, none⟩ = some (.pointer (some ⟨wb, 0, none⟩)) ∧ wz.cell? ⟨p, 3, none⟩ = some (.slice (some ⟨bb, off, none⟩) n c) ∧ wz.cell? ⟨bb, off + i * 2, none⟩ = some (.int .u64 (xn : Int))) (by kernel_rfl) ⟨c2r, c3r, hc1⟩ (fun hHeld => ?_)
        refine wpAnyH_take (i := 0) (v := ?_) rfl (by kernel_rfl) (by kernel_rfl) (by kernel_rfl) (fun _ _ _ h => h) (Or.inl ⟨by rfl, ?_⟩) hHeld ?_
        rotate_left
        · intro wq hSw
          go_simp
          all_goals with_reducible rfl
        try simp only [Act.put, List.getElem_toArray, List.getElem_cons_succ, List.getElem_cons_zero, List.setIfInBounds_toArray, List.set_cons_zero, List.set_cons_succ]
        refine wpAnyH_take (i := 1) (v := ?_) rfl (by kernel_rfl) (by kernel_rfl) (by kernel_rfl) (fun _ _ _ h => h) (Or.inl ⟨by rfl, ?_⟩) hHeld ?_
        rotate_left
        · intro wq hSw
          go_simp
          all_goals with_reducible rfl
        try simp only [Act.put, List.getElem_toArray, List.getElem_cons_succ, List.getElem_cons_zero, List.setIfInBounds_toArray, List.set_cons_zero, List.set_cons_succ]
        refine wpAnyH_take (i := 2) (v := ?_) rfl (by kernel_rfl) (by kernel_rfl) (by kernel_rfl) (fun _ _ _ h => h) (Or.inl ⟨by rfl, ?_⟩) hHeld ?_
        rotate_left
        · intro wq hSw
          go_simp
          all_goals with_reducible rfl
        try simp only [Act.put, List.getElem_toArray, List.getElem_cons_succ, List.getElem_cons_zero, List.setIfInBounds_toArray, List.set_cons_zero, List.set_cons_succ]
        refine wpAnyH_take (i := 3) (v := ?_) rfl (by kernel_rfl) (by kernel_rfl) (by kernel_rfl) (fun _ _ _ h => h) (Or.inl ⟨by rfl, ?_⟩) hHeld ?_
        rotate_left
        · intro wq hSw
          have q0 := hSw.1
          go_simp
          all_goals with_reducible rfl
        try simp only [Act.put, List.getElem_toArray, List.getElem_cons_succ, List.getElem_cons_zero, List.setIfInBounds_toArray, List.set_cons_zero, List.set_cons_succ]
        refine wpAnyH_take (i := 4) (v := ?_) rfl (by kernel_rfl) (by kernel_rfl) (by kernel_rfl) (fun _ _ _ h => h) (Or.inl ⟨by rfl, ?_⟩) hHeld ?_
        rotate_left
        · intro wq hSw
          go_simp
          all_goals with_reducible rfl
        try simp only [Act.put, List.getElem_toArray, List.getElem_cons_succ, List.getElem_cons_zero, List.setIfInBounds_toArray, List.set_cons_zero, List.set_cons_succ]
        refine wpAnyH_take (i := 5) (v := ?_) rfl (by kernel_rfl) (by kernel_rfl) (by kernel_rfl) (fun _ _ _ h => h) (Or.inl ⟨by rfl, ?_⟩) hHeld ?_
        rotate_left
        · intro wq hSw
          go_simp
          all_goals with_reducible rfl
        try simp only [Act.put, List.getElem_toArray, List.getElem_cons_succ, List.getElem_cons_zero, List.setIfInBounds_toArray, List.set_cons_zero, List.set_cons_succ]
        refine wpAnyH_take (i := 6) (v := ?_) rfl (by kernel_rfl) (by kernel_rfl) (by kernel_rfl) (fun _ _ _ h => h) (Or.inl ⟨by rfl, ?_⟩) hHeld ?_
        rotate_left
        · intro wq hSw
          go_simp
          all_goals with_reducible rfl
        try simp only [Act.put, List.getElem_toArray, List.getElem_cons_succ, List.getElem_cons_zero, List.setIfInBounds_toArray, List.set_cons_zero, List.set_cons_succ]
        refine wpAnyH_take (i := 7) (v := ?_) rfl (by kernel_rfl) (by kernel_rfl) (by kernel_rfl) (fun _ _ _ h => h) (Or.inl ⟨by rfl, ?_⟩) hHeld ?_
        rotate_left
        · intro wq hSw
          have q0 := hSw.2.1
          go_simp
          all_goals with_reducible rfl
        try simp only [Act.put, List.getElem_toArray, List.getElem_cons_succ, List.getElem_cons_zero, List.setIfInBounds_toArray, List.set_cons_zero, List.set_cons_succ]
        refine wpAnyH_take (i := 8) (v := ?_) rfl (by kernel_rfl) (by kernel_rfl) (by kernel_rfl) (fun _ _ _ h => h) (Or.inl ⟨by rfl, ?_⟩) hHeld ?_
        rotate_left
        · intro wq hSw
          go_simp
          all_goals with_reducible rfl
        try simp only [Act.put, List.getElem_toArray, List.getElem_cons_succ, List.getElem_cons_zero, List.setIfInBounds_toArray, List.set_cons_zero, List.set_cons_succ]
        refine wpAnyH_take (i := 9) (v := ?_) rfl (by kernel_rfl) (by kernel_rfl) (by kernel_rfl) (fun _ _ _ h => h) (Or.inl ⟨by rfl, ?_⟩) hHeld ?_
        rotate_left
        · intro wq hSw
          have q0 := e0
          have q1 := e1
          go_simp
          all_goals with_reducible rfl
        try simp only [Act.put, List.getElem_toArray, List.getElem_cons_succ, List.getElem_cons_zero, List.setIfInBounds_toArray, List.set_cons_zero, List.set_cons_succ]
        refine wpAnyH_take (i := 10) (v := ?_) rfl (by kernel_rfl) (by kernel_rfl) (by kernel_rfl) (fun _ _ _ h => h) (Or.inl ⟨by rfl, ?_⟩) hHeld ?_
        rotate_left
        · intro wq hSw
          go_simp
          all_goals with_reducible rfl
        try simp only [Act.put, List.getElem_toArray, List.getElem_cons_succ, List.getElem_cons_zero, List.setIfInBounds_toArray, List.set_cons_zero, List.set_cons_succ]
        refine wpAnyH_take (i := 11) (v := ?_) rfl (by kernel_rfl) (by kernel_rfl) (by kernel_rfl) (fun _ _ _ h => h) (Or.inl ⟨by rfl, ?_⟩) hHeld ?_
        rotate_left
        · intro wq hSw
          have q0 := hSw.2.2
          go_simp
          all_goals with_reducible rfl
        try simp only [Act.put, List.getElem_toArray, List.getElem_cons_succ, List.getElem_cons_zero, List.setIfInBounds_toArray, List.set_cons_zero, List.set_cons_succ]
        refine wpAnyH_ready (rs := [12]) (by kernel_rfl) (by simp) ?_
        refine AllReadyH.cons rfl (fun K hK => ?_) AllReadyH.nil
        go_simp
        refine (HIN.out _ (Keep.drew (Keep.refl _))).mono ?_
        rintro e w5 ⟨rfl, k5⟩
        have k5' : Keep wr w5 := (Keep.drew (Keep.refl wr)).trans k5
        have hq5 : w5.cell? ⟨p, 2, none⟩ = some (.pointer (some ⟨wb, 0, none⟩)) ∧ w5.cell? ⟨p, 3, none⟩ = some (.slice (some ⟨bb, off, none⟩) n c) ∧ w5.cell? ⟨bb, off + i * 2, none⟩ = some (.int .u64 (xn : Int)) := ⟨(World.cell?_of_block (k5'.block _ HPL.out)).trans c2r, (World.cell?_of_block (k5'.block _ HPL.out)).trans c3r, (World.cell?_of_block (k5'.block _ HBB.out)).trans hc1⟩
        have hc25 : w5.cell? ⟨bb, off + i * 2 + 1, none⟩ = some (.pointer (some ⟨xq, 0, none⟩)) := (World.cell?_of_block (k5'.block _ HBB.out)).trans hc2
        have HK5 := Lib.hid k5'
        clear k5 k5'
        refine hK.out _ _ hq5 (fun hHeld => ?_)
        clear hK K
        try simp only [Act.put, List.getElem_toArray, List.getElem_cons_succ, List.getElem_cons_zero, List.setIfInBounds_toArray, List.set_cons_zero, List.set_cons_succ]
        refine wpAnyH_done (by kernel_rfl) ?_ _
        refine NoPanic.normal ?_
        clear hHeld
        obtain ⟨q1, q2, q3⟩ := hq5
        have HO5 := Lib.hid (HO.out.keep HK5.out)
        have HS5 := Lib.hid (HK.out.trans HK5.out)
        clear hc1 hc2 c2r c3r
        go_wp2_with (at_builtin; refine wpList_append_gns rfl _ _ 65 rfl (m := 1) (news := [(xn, xq)]) (Eq.refl (r + 1)) Tryz.underlying65 rfl (HO5.out.alloc _) rfl rfl (fun _ => ⟨w5.heap.size, 0, rfl, fun j p hj => by
            have hj0 : j = 0 := by
              rcases j with _ | j
              · rfl
              · simp at hj
            subst hj0
            injection hj with hj
            subst hj
            exact ⟨cell_of_row _ _ _ _ _ _ (heap_alloc_new _ _), cell_of_row _ _ _ _ _ _ (heap_alloc_new _ _)⟩⟩) (by omega) (by have := HS5.out.size; simp; omega) ?_)
        intro A8 c8 w8 o8 g8 b8
        have HK8 : Hid (Keep w1 w8) := (HS5.out.trans ((Keep.refl w5).alloc _ _)).grown g8 fun k hk => HO5.out.rowLe k hk
        have HO8 : Hid (OwnGn w8 w1.heap.size A8 (r + 1) c8 (gnL ((G.take (i + 1)).filter fun x => winIn b k x.n))) := by
          show OwnGn _ _ _ _ _ _
          rw [sift_more b k HX.out (by rw [HXN.out.1]; exact HWI.out), HXN.out.1, HXN.out.2]; exact o8
        clear o8 g8 b8 q1 q2 q3 hc25
        go_wp2_with fail
        go_roundw
        case rel => exact ⟨i + 1, r + 1, c8, A8, by omega, by omega, by go_num, rfl, HK8.out, HO8.out⟩
        case measure => simp [intOf]; omega
      | false =>
        rw [hwi] at HIN
        have HWI := Lib.hid hwi
        clear hwi
        go_upto_region 6 with fail
        refine wp_region_noPanic ?_
        refine wp_region_held_drew (S := fun wz => wz.cell? ⟨p, 2, none⟩ = some (.pointer (some ⟨wb, 0, none⟩)) ∧ wz.cell? ⟨p, 3, none⟩ = some (.slice (some ⟨bb, off, none⟩) n c) ∧ wz.cell? ⟨bb, off + i * 2, none⟩ = some (.int .u64 (xn : Int))) (by kernel_rfl) ⟨c2r, c3r, hc1⟩ (fun hHeld => ?_)
        refine wpAnyH_take (i := 0) (v := ?_) rfl (by kernel_rfl) (by kernel_rfl) (by kernel_rfl) (fun _ _ _ h => h) (Or.inl ⟨by rfl, ?_⟩) hHeld ?_
        rotate_left
        · intro wq hSw
          go_simp
          all_goals with_reducible rfl
        try simp only [Act.put, List.getElem_toArray, List.getElem_cons_succ, List.getElem_cons_zero, List.setIfInBounds_toArray, List.set_cons_zero, List.set_cons_succ]
        refine wpAnyH_take (i := 1) (v := ?_) rfl (by kernel_rfl) (by kernel_rfl) (by kernel_rfl) (fun _ _ _ h => h) (Or.inl ⟨by rfl, ?_⟩) hHeld ?_
        rotate_left
        · intro wq hSw
          go_simp
          all_goals with_reducible rfl
        try simp only [Act.put, List.getElem_toArray, List.getElem_cons_succ, List.getElem_cons_zero, List.setIfInBounds_toArray, List.set_cons_zero, List.set_cons_succ]
        refine wpAnyH_take (i := 2) (v := ?_) rfl (by kernel_rfl) (by kernel_rfl) (by kernel_rfl) (fun _ _ _ h => h) (Or.inl ⟨by rfl, ?_⟩) hHeld ?_
        rotate_left
        · intro wq hSw
          go_simp
          all_goals with_reducible rfl
        try simp only [Act.put, List.getElem_toArray, List.getElem_cons_succ, List.getElem_cons_zero, List.setIfInBounds_toArray, List.set_cons_zero, List.set_cons_succ]
        refine wpAnyH_take (i := 3) (v := ?_) rfl (by kernel_rfl) (by kernel_rfl) (by kernel_rfl) (fun _ _ _ h => h) (Or.inl ⟨by rfl, ?_⟩) hHeld ?_
        rotate_left
        · intro wq hSw
          have q0 := hSw.1
          go_simp
          all_goals with_reducible rfl
        try simp only [Act.put, List.getElem_toArray, List.getElem_cons_succ, List.getElem_cons_zero, List.setIfInBounds_toArray, List.set_cons_zero, List.set_cons_succ]
        refine wpAnyH_take (i := 4) (v := ?_) rfl (by kernel_rfl) (by kernel_rfl) (by kernel_rfl) (fun _ _ _ h => h) (Or.inl ⟨by rfl, ?_⟩) hHeld ?_
        rotate_left
        · intro wq hSw
          go_simp
          all_goals with_reducible rfl
        try simp only [Act.put, List.getElem_toArray, List.getElem_cons_succ, List.getElem_cons_zero, List.setIfInBounds_toArray, List.set_cons_zero, List.set_cons_succ]
        refine wpAnyH_take (i := 5) (v := ?_) rfl (by kernel_rfl) (by kernel_rfl) (by kernel_rfl) (fun _ _ _ h => h) (Or.inl ⟨by rfl, ?_⟩) hHeld ?_
        rotate_left
        · intro wq hSw
          go_simp
          all_goals with_reducible rfl
        try simp only [Act.put, List.getElem_toArray, List.getElem_cons_succ, List.getElem_cons_zero, List.setIfInBounds_toArray, List.set_cons_zero, List.set_cons_succ]
        refine wpAnyH_take (i := 6) (v := ?_) rfl (by kernel_rfl) (by kernel_rfl) (by kernel_rfl) (fun _ _ _ h => h) (Or.inl ⟨by rfl, ?_⟩) hHeld ?_
        rotate_left
        · intro wq hSw
          go_simp
          all_goals with_reducible rfl
        try simp only [Act.put, List.getElem_toArray, List.getElem_cons_succ, List.getElem_cons_zero, List.setIfInBounds_toArray, List.set_cons_zero, List.set_cons_succ]
        refine wpAnyH_take (i := 7) (v := ?_) rfl (by kernel_rfl) (by kernel_rfl) (by kernel_rfl) (fun _ _ _ h => h) (Or.inl ⟨by rfl, ?_⟩) hHeld ?_
        rotate_left
        · intro wq hSw
          have q0 := hSw.2.1
          go_simp
          all_goals with_reducible rfl
        try simp only [Act.put, List.getElem_toArray, List.getElem_cons_succ, List.getElem_cons_zero, List.setIfInBounds_toArray, List.set_cons_zero, List.set_cons_succ]
        refine wpAnyH_take (i := 8) (v := ?_) rfl (by kernel_rfl) (by kernel_rfl) (by kernel_rfl) (fun _ _ _ h => h) (Or.inl ⟨by rfl, ?_⟩) hHeld ?_
        rotate_left
        · intro wq hSw
          go_simp
          all_goals with_reducible rfl
        try simp only [Act.put, List.getElem_toArray, List.getElem_cons_succ, List.getElem_cons_zero, List.setIfInBounds_toArray, List.set_cons_zero, List.set_cons_succ]
        refine wpAnyH_take (i := 9) (v := ?_) rfl (by kernel_rfl) (by kernel_rfl) (by kernel_rfl) (fun _ _ _ h => h) (Or.inl ⟨by rfl, ?_⟩) hHeld ?_
        rotate_left
        · intro wq hSw
          have q0 := e0
          have q1 := e1
          go_simp
          all_goals with_reducible rfl
        try simp only [Act.put, List.getElem_toArray, List.getElem_cons_succ, List.getElem_cons_zero, List.setIfInBounds_toArray, List.set_cons_zero, List.set_cons_succ]
        refine wpAnyH_take (i := 10) (v := ?_) rfl (by kernel_rfl) (by kernel_rfl) (by kernel_rfl) (fun _ _ _ h => h) (Or.inl ⟨by rfl, ?_⟩) hHeld ?_
        rotate_left
        · intro wq hSw
          go_simp
          all_goals with_reducible rfl
        try simp only [Act.put, List.getElem_toArray, List.getElem_cons_succ, List.getElem_cons_zero, List.setIfInBounds_toArray, List.set_cons_zero, List.set_cons_succ]
        refine wpAnyH_take (i := 11) (v := ?_) rfl (by kernel_rfl) (by kernel_rfl) (by kernel_rfl) (fun _ _ _ h => h) (Or.inl ⟨by rfl, ?_⟩) hHeld ?_
        rotate_left
        · intro wq hSw
          have q0 := hSw.2.2
          go_simp
          all_goals with_reducible rfl
        try simp only [Act.put, List.getElem_toArray, List.getElem_cons_succ, List.getElem_cons_zero, List.setIfInBounds_toArray, List.set_cons_zero, List.set_cons_succ]
        refine wpAnyH_ready (rs := [12]) (by kernel_rfl) (by simp) ?_
        refine AllReadyH.cons rfl (fun K hK => ?_) AllReadyH.nil
        go_simp
        refine (HIN.out _ (Keep.drew (Keep.refl _))).mono ?_
        rintro e w5 ⟨rfl, k5⟩
        have k5' : Keep wr w5 := (Keep.drew (Keep.refl wr)).trans k5
        have hq5 : w5.cell? ⟨p, 2, none⟩ = some (.pointer (some ⟨wb, 0, none⟩)) ∧ w5.cell? ⟨p, 3, none⟩ = some (.slice (some ⟨bb, off, none⟩) n c) ∧ w5.cell? ⟨bb, off + i * 2, none⟩ = some (.int .u64 (xn : Int)) := ⟨(World.cell?_of_block (k5'.block _ HPL.out)).trans c2r, (World.cell?_of_block (k5'.block _ HPL.out)).trans c3r, (World.cell?_of_block (k5'.block _ HBB.out)).trans hc1⟩
        have hc25 : w5.cell? ⟨bb, off + i * 2 + 1, none⟩ = some (.pointer (some ⟨xq, 0, none⟩)) := (World.cell?_of_block (k5'.block _ HBB.out)).trans hc2
        have HK5 := Lib.hid k5'
        clear k5 k5'
        refine hK.out _ _ hq5 (fun hHeld => ?_)
        clear hK K
        try simp only [Act.put, List.getElem_toArray, List.getElem_cons_succ, List.getElem_cons_zero, List.setIfInBounds_toArray, List.set_cons_zero, List.set_cons_succ]
        refine wpAnyH_done (by kernel_rfl) ?_ _
        refine NoPanic.normal ?_
        clear hHeld
        clear hc1 hc2 c2r c3r hq5 hc25
        have HS5 := Lib.hid (HK.out.trans HK5.out)
        have HO5 : Hid (OwnGn w5 w1.heap.size V r d (gnL ((G.take (i + 1)).filter fun x => winIn b k x.n))) := by
          show OwnGn _ _ _ _ _ _
          rw [sift_same b k HX.out (by rw [HXN.out.1]; exact HWI.out)]; exact HO.out.keep HK5.out
        go_wp2_with fail
        go_roundw
        case rel => exact ⟨i + 1, r, d, V, by omega, by omega, by go_num, rfl, HS5.out, HO5.out⟩
        case measure => simp [intOf]; omega
    · have e1 : ¬ (i : Int) < (n : Int) := by omega
      have e1' : decide ((i : Int) < (n : Int)) = false := decide_eq_false e1
      have hfr : wr.frozen? ⟨p, 3, none⟩ = false := by
        have hb : wr.heap[p]? = _ := (HK.out.block p HPL1.out).trans HPB.out
        simp [World.frozen?, hb]
      have HLEN : Hid (G.take i = G) := List.take_of_length_le (by have := H.out.len; omega)
      go_wp2_with fail
      go_ret
      have ho := HO.out
      rw [HLEN.out] at ho
      have hs := H.out.sift HT1.out HW1.out HK.out ho (HT1.out.size)
      rw [moveL_self H.out.r] at hs
      exact ⟨rfl, _, hs⟩
end
end Go.Proofs.YtcjjhblgejkkeaaGreat
