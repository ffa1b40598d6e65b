/- The landed sink: what its Release keeps on the way, and what it tells. -/
import Derived.Test.YtgelalbmhllccaaGreatQar
import Derived.Test.YtgelalbmhllccaaGreatQaa
import Derived.Test.YtgelalbmhllccaaGreatQae
import Derived.RangeFuncBox
import Derived.OwnWalk
namespace Go.Proofs.YtgelalbmhllccaaGreat
open Go.RowKit Lin
set_option linter.unusedVariables false
set_option linter.unusedSimpArgs false
theorem ownblock_cells {w : World} {base size n x : Nat} {e : TypeId} {v : Value} {xs : List Value} (h : w.ownsRow base e size v n xs) (hx : v.ownBlock = some x) : base ≤ x ∧ ∃ cur, w.heap[x]? = some (.cells cur e (0, 0)) := by
  rcases h.2 with ⟨rfl, _⟩ | ⟨g, cap, cur, rfl, hb, hg, _⟩
  · simp [Value.ownBlock] at hx
  · simp only [Value.ownBlock, Option.some.injEq] at hx
    subst hx
    exact ⟨hb, cur, hg⟩
theorem turned_putObj (W : World) (k : Nat) (o : Obj) : Turned (fun a => a = k) W (W.putObj k o) := ⟨rfl, rfl, rfl, by simp, fun i hi hn => World.putObj_heap_other hn⟩
theorem ne_of_cells {W : World} {k x : Nat} {o : Obj} {cs : Array Value} {t : TypeId} {fr : Nat × Nat} (hb : W.heap[k]? = some o) (hc : o.isCells = false) (hx : W.heap[x]? = some (.cells cs t fr)) : x ≠ k := fun e => by
  subst e
  rw [hb] at hx
  injection hx with hx
  subst hx
  simp [Obj.isCells] at hc
theorem boxed_later {W W' : World} {B : Nat} {t : TypeId} {u : Value} {G : Nat → Prop} (h : Boxed W B t u) (k : Turned G W W') (hn : ¬ G B) : Boxed W' B t u := (k.block B (Array.getElem?_eq_some_iff.1 h).1 hn).trans h
theorem boxed_put {W : World} {B : Nat} {t : TypeId} {u : Value} (h : Boxed W B t u) (v : Value) : Boxed (W.setCell ⟨B, 0, none⟩ v) B t v := by
  unfold Boxed; rw [bset h]; rfl
theorem keepsFrom_turned {W W' : World} {G : Nat → Prop} (t : Turned G W W') (B : Nat) (hG : ∀ a, G a → ∃ cs t fr, W.heap[a]? = some (.cells cs t fr)) : KeepsFrom B W W' :=
  ⟨t.size, fun i o _ h hc => (t.block i (Array.getElem?_eq_some_iff.1 h).1 fun hg => by
    obtain ⟨cs, ty, fr, e⟩ := hG i hg
    rw [h] at e
    injection e with e
    subst e
    simp [Obj.isCells] at hc).trans h⟩
/-- A row appended, inside a fence. -/
theorem wpListIn_append_row {Fe : Fence} {nF : Nat} {P : Program} {w : World} {ops : Array Oper} {rest : List Oper} {o : Oper} {a : Act} {Q : Exit → Act → World → Prop} (hgd : o.guard = none) (s x : Operand) (t : TypeId)
    (ho : o.op = .call { callee := .builtin .append, args := #[s, x], argTypes := #[t, t] }) {base n c cx e : Nat} {A : Option Addr} {rs : List RowV} {ad : Addr} (r : RowV) (ht : P.underlying t = some (.slice e))
    (hi : (P.info? e).map (fun i => (i.zero, i.size, i.bytes)) = some (some (.slice none 0 0), 1, 24)) (hs : a.eval s = .slice A n c) (hown : OwnRows w base e A n c rs) (hx0 : a.eval x = .slice (some ad) 1 cx) (hx : w.cell? ad = some r.val) (hlen : n ≤ 1000000) (hbase : base ≤ w.heap.size)
    (h : ∀ A2 c2 w', OwnRows w' base e A2 (n + 1) c2 (rs ++ [r]) → w.grownBy w' (Value.slice A n c).ownBlock → wpListIn Fe nF P ops Q rest (a.put o.dst (.slice A2 (n + 1) c2)) w') : wpListIn Fe nF P ops Q (o :: rest) a w := by
  obtain ⟨i0, hi0, hz0, hz1, hz2⟩ := info_parts hi
  refine wpListIn_append_own w hgd s x t ho base e i0 (.slice none 0 0) 1 24 ht hi0 hz0 hz1 hz2 rfl (by decide) _ n (rs.map RowV.val) hs hown ad 1 cx [r.val] hx0 rfl (fun j u hu => ?_) (fun u hu => by simp at hu; subst hu; rfl) (by unfold maxLen; omega) (by omega) hbase fun v' w' h2 h3 _ => ?_
  · match j, hu with
    | 0, hu =>
      simp at hu
      subst hu
      have ha : ad.add 0 = ad := by unfold Addr.add; split <;> simp_all
      rw [ha]; exact hx
  · obtain ⟨g', cap', rfl⟩ := ownsRow_succ h2
    exact h _ _ w' (by rw [OwnRows, List.map_append]; exact h2) h3
/-- On the way: the chunks so far, the sink, the relay and the boxes. -/
structure LI (w W : World) (F : Nat → Prop) (p q g s k b : Nat) (L : Nat → List (List Nat)) (got of : Nat) (kn : Bool) (A : Option Addr) (n c : Nat) (rs : List RowV) (got' : Nat) : Prop where
  sk : SnkR W q (g : Int) (s : Int) got' of kn false
  y : RelR W F p g s k b L
  fl : ∀ a, F a → a < w.heap.size
  nq : ¬ F q
  ql : q < w.heap.size
  rel : RelI g s k b L got (rowsXs rs) got'
  own : OwnRows W (w.heap.size + 6) 43 A n c rs
  rows : ∀ r ∈ rs, Own W (w.heap.size + 6) 5 r.A r.n r.c r.xs
  t : Turned (fun a => a = q) w W
  b0 : Boxed W w.heap.size 27 (.pointer (some ⟨q, 0, none⟩))
  b1 : Boxed W (w.heap.size + 1) 40 (.slice none 0 0)
  b2 : Boxed W (w.heap.size + 2) 28 (.int .i64 0)
  b3 : Boxed W (w.heap.size + 3) 40 (.slice A n c)
  bk : Boxed W (w.heap.size + 4) 27 (.pointer (some ⟨q, 0, none⟩))
  bb : Boxed W (w.heap.size + 5) 34 (.pointer (some ⟨p, 0, none⟩))
  sz : w.heap.size + 6 ≤ W.heap.size
/-- At the end: what is told stands in the results' boxes. -/
structure LT (w W : World) (F : Nat → Prop) (p q g s k b : Nat) (L : Nat → List (List Nat)) (got of : Nat) (kn : Bool) (A : Option Addr) (n c : Nat) (rs : List RowV) (got' : Nat) (br : Bool) : Prop where
  sk : SnkR W q (g : Int) (s : Int) got' of kn br
  y : RelR W F p g s k b L
  fl : ∀ a, F a → a < w.heap.size
  ql : q < w.heap.size
  rel : RelT g s k b L got (rowsXs rs) got' br
  own : OwnRows W (w.heap.size + 6) 43 A n c rs
  rows : ∀ r ∈ rs, Own W (w.heap.size + 6) 5 r.A r.n r.c r.xs
  t : Turned (fun a => a = q) w W
  b1 : Boxed W (w.heap.size + 1) 40 (.slice A n c)
  b2 : Boxed W (w.heap.size + 2) 28 (.int .i64 (if br then 5 else 0))
namespace LI
variable {w W W' : World} {F G : Nat → Prop} {p q g s k b got of n c got' : Nat} {L : Nat → List (List Nat)} {kn : Bool} {A : Option Addr} {rs : List RowV}
/-- What turns lies elsewhere. -/
theorem turned (h : LI w W F p q g s k b L got of kn A n c rs got') (t : Turned G W W') (h0 : ∀ a, a < w.heap.size + 6 → ¬ G a) (h1 : ∀ x, (Value.slice A n c).ownBlock = some x → ¬ G x) (h2 : ∀ r ∈ rs, ∀ x, (Value.slice r.A r.n r.c).ownBlock = some x → ¬ G x) : LI w W' F p q g s k b L got of kn A n c rs got' :=
  have hq := h.ql
  ⟨h.sk.turned t (h0 q (by omega)), h.y.turned t fun a ha => h0 a (by have := h.fl a ha; omega), h.fl, h.nq, h.ql, h.rel, OwnRows.turned h.own t h1, fun r hr => (h.rows r hr).turned t (h2 r hr), h.t.trans t fun j e => Or.inr (by rcases Nat.lt_or_ge j (w.heap.size + 6) with e2 | e2; exact absurd e (h0 j e2); omega),
    boxed_later h.b0 t (h0 _ (by omega)), boxed_later h.b1 t (h0 _ (by omega)), boxed_later h.b2 t (h0 _ (by omega)), boxed_later h.b3 t (h0 _ (by omega)), boxed_later h.bk t (h0 _ (by omega)), boxed_later h.bb t (h0 _ (by omega)), Nat.le_trans h.sz t.size⟩
theorem keep (h : LI w W F p q g s k b L got of kn A n c rs got') (t : Keep W W') : LI w W' F p q g s k b L got of kn A n c rs got' :=
  h.turned (Turned.of_keep (F := fun _ => False) t) (fun _ _ e => e) (fun _ _ e => e) fun _ _ _ _ e => e
theorem abide {m : Nat} {o o' : Obj} (h : LI w W F p q g s k b L got of kn A n c rs got') (hm : w.heap.size + 6 ≤ m) (hb : W.heap[m]? = some o) (hc : o.isCells = false) : LI w (W.putObj m o') F p q g s k b L got of kn A n c rs got' :=
  h.turned (turned_putObj W m o') (fun a ha e => by omega) (fun x e => by
    obtain ⟨-, cur, h2⟩ := ownblock_cells h.own e
    exact ne_of_cells hb hc h2) fun r hr x e => by
    obtain ⟨-, cur, h2⟩ := ownblock_cells (h.rows r hr).1 e
    exact ne_of_cells hb hc h2
theorem box (h : LI w W F p q g s k b L got of kn A n c rs got') : SnkB W F p q g s k b of L kn (w.heap.size + 4) (w.heap.size + 5) got' := ⟨h.sk, h.y, h.bk, h.bb⟩
/-- A chunk more. -/
theorem more {A2 : Option Addr} {c2 : Nat} {r : RowV} {w9 : World} (h : LI w W F p q g s k b L got of kn A n c rs got') (h1 : rdyN g k b L got') (h2 : takeE g s (symN g (L got')) = 0) (hx : r.xs = takeV g s (symN g (L got'))) (hr : Own W (w.heap.size + 6) 5 r.A r.n r.c r.xs)
    (ho : OwnRows w9 (w.heap.size + 6) 43 A2 (n + 1) c2 (rs ++ [r])) (kb : Turned (fun a => (Value.slice A n c).ownBlock = some a) W w9) :
    LI w ((w9.setCell ⟨w.heap.size + 3, 0, none⟩ (.slice A2 (n + 1) c2)).setCell ⟨q, 2, none⟩ (.int .u64 ((got' + 1 : Nat) : Int))) F p q g s k b L got of kn A2 (n + 1) c2 (rs ++ [r]) (got' + 1) := by
  have hq := h.ql
  have hsz := h.sz
  have X0 : ∀ x, (Value.slice A n c).ownBlock = some x → w.heap.size + 6 ≤ x := fun x e => (ownblock_cells h.own e).1
  have t1 : Turned (fun a => a = w.heap.size + 3) w9 (w9.setCell ⟨w.heap.size + 3, 0, none⟩ (.slice A2 (n + 1) c2)) := Turned.set (F := fun a => a = w.heap.size + 3) w9 ⟨w.heap.size + 3, 0, none⟩ _ rfl
  obtain ⟨wa, hwa⟩ : ∃ v, w9.setCell ⟨w.heap.size + 3, 0, none⟩ (.slice A2 (n + 1) c2) = v := ⟨_, rfl⟩
  have b3 : Boxed wa (w.heap.size + 3) 40 (.slice A2 (n + 1) c2) := by rw [← hwa]; exact boxed_put (boxed_later h.b3 kb fun e => by have := X0 _ e; omega) _
  rw [hwa] at t1 ⊢
  have t2 : Turned (fun a => a = q) wa (wa.setCell ⟨q, 2, none⟩ (.int .u64 ((got' + 1 : Nat) : Int))) := Turned.set (F := fun a => a = q) wa ⟨q, 2, none⟩ _ rfl
  have hrow : ∀ r' ∈ rs ++ [r], Own W (w.heap.size + 6) 5 r'.A r'.n r'.c r'.xs := fun r' hr' => by
    rcases List.mem_append.1 hr' with e | e
    · exact h.rows r' e
    · obtain rfl : r' = r := by simpa using e
      exact hr
  have K : Turned (fun a => (Value.slice A n c).ownBlock = some a ∨ a = w.heap.size + 3) W wa := (kb.mono fun i _ e => Or.inl e).trans (t1.mono fun i _ e => Or.inr e) fun i e => Or.inl e
  have bx : ∀ B t u, B < w.heap.size + 6 → B ≠ w.heap.size + 3 → B ≠ q → Boxed W B t u → Boxed (wa.setCell ⟨q, 2, none⟩ (.int .u64 ((got' + 1 : Nat) : Int))) B t u := fun B t u hB h3 hq hb =>
    boxed_later (boxed_later hb K (fun e => by rcases e with e | e; (have := X0 _ e; omega); exact h3 e)) t2 hq
  refine ⟨(h.sk.turned K fun e => ?_).setGot (by have := rdy_top h1; omega), (h.y.turned K fun a ha e => ?_).turned t2 fun a ha e => h.nq (e ▸ ha), h.fl, h.nq, h.ql, ?_, OwnRows.turned (OwnRows.turned ho t1 fun x e e2 => ?_) t2 fun x e e2 => ?_, fun r' hr' => ((hrow r' hr').turned K fun x e e2 => ?_).turned t2 fun x e e2 => ?_, ?_, bx _ _ _ (by omega) (by omega) (by omega) h.b0, bx _ _ _ (by omega) (by omega) (by omega) h.b1, bx _ _ _ (by omega) (by omega) (by omega) h.b2, boxed_later b3 t2 (by show ¬ (w.heap.size + 3 = q); omega), bx _ _ _ (by omega) (by omega) (by omega) h.bk, bx _ _ _ (by omega) (by omega) (by omega) h.bb, Nat.le_trans hsz (Nat.le_trans K.size t2.size)⟩
  · rcases e with e | e
    · have := X0 _ e; omega
    · omega
  · have := h.fl a ha
    rcases e with e | e
    · have := X0 _ e; omega
    · omega
  · have h3 := h.rel.more h1 h2
    rw [← hx] at h3
    have e : rowsXs (rs ++ [r]) = rowsXs rs ++ [r.xs] := by simp [rowsXs]
    rw [e]; exact h3
  · have := (ownblock_cells ho e).1; omega
  · have := (ownblock_cells ho e).1; omega
  · obtain ⟨h3, cur, h4⟩ := ownblock_cells (hrow r' hr').1 e
    rcases e2 with e2 | e2
    · obtain ⟨-, cur2, h5⟩ := ownblock_cells h.own e2
      rw [h4] at h5
      simp at h5
    · omega
  · have := (ownblock_cells (hrow r' hr').1 e).1; omega
  · refine (h.t.trans K fun j e => Or.inr ?_).trans t2 fun j e => Or.inl e
    rcases e with e | e
    · have := X0 _ e; omega
    · omega
/-- What the walk reads and writes behind an append. -/
theorem cells {w9 : World} (h : LI w W F p q g s k b L got of kn A n c rs got') (kb : Turned (fun a => (Value.slice A n c).ownBlock = some a) W w9) :
    w9.frozen? ⟨w.heap.size + 3, 0, none⟩ = false ∧ w9.cell? ⟨w.heap.size, 0, none⟩ = some (.pointer (some ⟨q, 0, none⟩)) ∧ w9.cell? ⟨q, 2, none⟩ = some (.int .u64 (got' : Int)) ∧ w9.frozen? ⟨q, 2, none⟩ = false ∧ ¬ q = w.heap.size + 3 ∧ ¬ w.heap.size + 3 = q ∧ w9.cell? ⟨w.heap.size + 3, 0, none⟩ = some (.slice A n c) := by
  have hq := h.ql
  have X0 : ∀ x, (Value.slice A n c).ownBlock = some x → w.heap.size + 6 ≤ x := fun x e => (ownblock_cells h.own e).1
  have s1 := h.sk.turned kb fun e => by have := X0 _ e; omega
  exact ⟨(boxed_later h.b3 kb fun e => by have := X0 _ e; omega).frozen, (boxed_later h.b0 kb fun e => by have := X0 _ e; omega).cell, s1.c2, s1.free 2, by omega, by omega, (boxed_later h.b3 kb fun e => by have := X0 _ e; omega).cell⟩
/-- What the round has turned are cells. -/
theorem kf {w9 : World} (h : LI w W F p q g s k b L got of kn A n c rs got') (kb : Turned (fun a => (Value.slice A n c).ownBlock = some a) W w9) (v u : Value) (B : Nat) : KeepsFrom B W ((w9.setCell ⟨w.heap.size + 3, 0, none⟩ v).setCell ⟨q, 2, none⟩ u) := by
  have t1 : Turned (fun a => a = w.heap.size + 3) w9 (w9.setCell ⟨w.heap.size + 3, 0, none⟩ v) := Turned.set (F := fun a => a = w.heap.size + 3) w9 ⟨w.heap.size + 3, 0, none⟩ _ rfl
  have t2 : Turned (fun a => a = q) (w9.setCell ⟨w.heap.size + 3, 0, none⟩ v) ((w9.setCell ⟨w.heap.size + 3, 0, none⟩ v).setCell ⟨q, 2, none⟩ u) := Turned.set (F := fun a => a = q) _ ⟨q, 2, none⟩ _ rfl
  have K : Turned (fun a => (Value.slice A n c).ownBlock = some a ∨ a = w.heap.size + 3 ∨ a = q) W ((w9.setCell ⟨w.heap.size + 3, 0, none⟩ v).setCell ⟨q, 2, none⟩ u) := ((kb.mono fun i _ e => Or.inl e).trans (t1.mono fun i _ e => Or.inr (Or.inl e)) fun i e => Or.inl e).trans (t2.mono fun i _ e => Or.inr (Or.inr e)) fun i e => Or.inl e
  refine keepsFrom_turned K B fun a e => ?_
  rcases e with e | e | e
  · obtain ⟨-, cur, h2⟩ := ownblock_cells h.own e
    exact ⟨_, _, _, h2⟩
  · subst e; exact ⟨_, _, _, h.b3⟩
  · subst e; exact ⟨_, _, _, h.sk.block⟩
theorem kfb (h : LI w W F p q g s k b L got of kn A n c rs got') (u v x : Value) (B : Nat) : KeepsFrom B W (((W.setCell ⟨q, 5, none⟩ u).setCell ⟨w.heap.size + 1, 0, none⟩ v).setCell ⟨w.heap.size + 2, 0, none⟩ x) := by
  have t0 : Turned (fun a => a = q) W (W.setCell ⟨q, 5, none⟩ u) := Turned.set (F := fun a => a = q) W ⟨q, 5, none⟩ _ rfl
  have t1 : Turned (fun a => a = w.heap.size + 1) (W.setCell ⟨q, 5, none⟩ u) ((W.setCell ⟨q, 5, none⟩ u).setCell ⟨w.heap.size + 1, 0, none⟩ v) := Turned.set (F := fun a => a = w.heap.size + 1) _ ⟨w.heap.size + 1, 0, none⟩ _ rfl
  have t2 : Turned (fun a => a = w.heap.size + 2) ((W.setCell ⟨q, 5, none⟩ u).setCell ⟨w.heap.size + 1, 0, none⟩ v) (((W.setCell ⟨q, 5, none⟩ u).setCell ⟨w.heap.size + 1, 0, none⟩ v).setCell ⟨w.heap.size + 2, 0, none⟩ x) := Turned.set (F := fun a => a = w.heap.size + 2) _ ⟨w.heap.size + 2, 0, none⟩ _ rfl
  have K : Turned (fun a => a = q ∨ a = w.heap.size + 1 ∨ a = w.heap.size + 2) W (((W.setCell ⟨q, 5, none⟩ u).setCell ⟨w.heap.size + 1, 0, none⟩ v).setCell ⟨w.heap.size + 2, 0, none⟩ x) := ((t0.mono fun i _ e => Or.inl e).trans (t1.mono fun i _ e => Or.inr (Or.inl e)) fun i e => Or.inl e).trans (t2.mono fun i _ e => Or.inr (Or.inr e)) fun i e => Or.inl e
  refine keepsFrom_turned K B fun a e => ?_
  rcases e with e | e | e
  · subst e; exact ⟨_, _, _, h.sk.block⟩
  · subst e; exact ⟨_, _, _, h.b1⟩
  · subst e; exact ⟨_, _, _, h.b2⟩
theorem few (h : LI w W F p q g s k b L got of kn A n c rs got') : n ≤ 16 := by
  have h1 := h.rel.few
  have h2 := h.own.length
  have h3 := h.y.fine
  rw [rowsXs, List.length_map] at h1
  omega
/-- It ends: the results are stored. -/
theorem told (h : LI w W F p q g s k b L got of kn A n c rs got') (hr : ¬ rdyN g k b L got') :
    LT w ((W.setCell ⟨w.heap.size + 1, 0, none⟩ (.slice A n c)).setCell ⟨w.heap.size + 2, 0, none⟩ (.int .i64 0)) F p q g s k b L got of kn A n c rs got' false := by
  have hq := h.ql
  have hsz := h.sz
  have t1 : Turned (fun a => a = w.heap.size + 1) W (W.setCell ⟨w.heap.size + 1, 0, none⟩ (.slice A n c)) := Turned.set (F := fun a => a = w.heap.size + 1) W ⟨w.heap.size + 1, 0, none⟩ _ rfl
  have b1 := boxed_put h.b1 (.slice A n c)
  have b2 := boxed_later h.b2 t1 (by show ¬ (w.heap.size + 2 = w.heap.size + 1); omega)
  obtain ⟨wa, hwa⟩ : ∃ v, W.setCell ⟨w.heap.size + 1, 0, none⟩ (.slice A n c) = v := ⟨_, rfl⟩
  rw [hwa] at t1 b1 b2 ⊢
  have t2 : Turned (fun a => a = w.heap.size + 2) wa (wa.setCell ⟨w.heap.size + 2, 0, none⟩ (.int .i64 0)) := Turned.set (F := fun a => a = w.heap.size + 2) wa ⟨w.heap.size + 2, 0, none⟩ _ rfl
  have K : Turned (fun a => a = w.heap.size + 1 ∨ a = w.heap.size + 2) W (wa.setCell ⟨w.heap.size + 2, 0, none⟩ (.int .i64 0)) := (t1.mono fun i _ e => Or.inl e).trans (t2.mono fun i _ e => Or.inr e) fun i e => Or.inl e
  exact ⟨h.sk.turned K (by omega), h.y.turned K fun a ha e => by have := h.fl a ha; omega, h.fl, h.ql, h.rel.done hr, OwnRows.turned h.own K fun x e e2 => by have := (ownblock_cells h.own e).1; omega, fun r hr => (h.rows r hr).turned K fun x e e2 => by have := (ownblock_cells (h.rows r hr).1 e).1; omega, h.t.trans K fun j e => Or.inr (by omega), boxed_later b1 t2 (by show ¬ (w.heap.size + 1 = w.heap.size + 2); omega), boxed_put b2 _⟩
/-- It is broken. -/
theorem broke (h : LI w W F p q g s k b L got of kn A n c rs got') (h1 : rdyN g k b L got') (h2 : takeE g s (symN g (L got')) ≠ 0) :
    LT w (((W.setCell ⟨q, 5, none⟩ (.bool true)).setCell ⟨w.heap.size + 1, 0, none⟩ (.slice A n c)).setCell ⟨w.heap.size + 2, 0, none⟩ (.int .i64 5)) F p q g s k b L got of kn A n c rs got' true := by
  have hq := h.ql
  have hsz := h.sz
  have t0 : Turned (fun a => a = q) W (W.setCell ⟨q, 5, none⟩ (.bool true)) := Turned.set (F := fun a => a = q) W ⟨q, 5, none⟩ _ rfl
  have sk := h.sk.setBr true
  have y0 := h.y.turned t0 fun a ha e => h.nq (e ▸ ha)
  have o0 := OwnRows.turned h.own t0 fun x e e2 => by have := (ownblock_cells h.own e).1; omega
  have l0 : ∀ r ∈ rs, Own (W.setCell ⟨q, 5, none⟩ (.bool true)) (w.heap.size + 6) 5 r.A r.n r.c r.xs := fun r hr => (h.rows r hr).turned t0 fun x e e2 => by have := (ownblock_cells (h.rows r hr).1 e).1; omega
  have b10 := boxed_later h.b1 t0 (by show ¬ (w.heap.size + 1 = q); omega)
  have b20 := boxed_later h.b2 t0 (by show ¬ (w.heap.size + 2 = q); omega)
  have tt := h.t.trans t0 fun j e => Or.inl e
  obtain ⟨wz, hwz⟩ : ∃ v, W.setCell ⟨q, 5, none⟩ (.bool true) = v := ⟨_, rfl⟩
  rw [hwz] at t0 sk y0 o0 l0 b10 b20 tt ⊢
  have t1 : Turned (fun a => a = w.heap.size + 1) wz (wz.setCell ⟨w.heap.size + 1, 0, none⟩ (.slice A n c)) := Turned.set (F := fun a => a = w.heap.size + 1) wz ⟨w.heap.size + 1, 0, none⟩ _ rfl
  have b1 := boxed_put b10 (.slice A n c)
  have b2 := boxed_later b20 t1 (by show ¬ (w.heap.size + 2 = w.heap.size + 1); omega)
  obtain ⟨wa, hwa⟩ : ∃ v, wz.setCell ⟨w.heap.size + 1, 0, none⟩ (.slice A n c) = v := ⟨_, rfl⟩
  rw [hwa] at t1 b1 b2 ⊢
  have t2 : Turned (fun a => a = w.heap.size + 2) wa (wa.setCell ⟨w.heap.size + 2, 0, none⟩ (.int .i64 5)) := Turned.set (F := fun a => a = w.heap.size + 2) wa ⟨w.heap.size + 2, 0, none⟩ _ rfl
  have K : Turned (fun a => a = w.heap.size + 1 ∨ a = w.heap.size + 2) wz (wa.setCell ⟨w.heap.size + 2, 0, none⟩ (.int .i64 5)) := (t1.mono fun i _ e => Or.inl e).trans (t2.mono fun i _ e => Or.inr e) fun i e => Or.inl e
  exact ⟨sk.turned K (by omega), y0.turned K fun a ha e => by have := h.fl a ha; omega, h.fl, h.ql, h.rel.bad h1 h2, OwnRows.turned o0 K fun x e e2 => by have := (ownblock_cells o0 e).1; omega, fun r hr => (l0 r hr).turned K fun x e e2 => by have := (ownblock_cells (l0 r hr).1 e).1; omega, tt.trans K fun j e => Or.inr (by omega), boxed_later b1 t2 (by show ¬ (w.heap.size + 1 = w.heap.size + 2); omega), boxed_put b2 _⟩
end LI
theorem LT.abide {w W : World} {F : Nat → Prop} {p q g s k b got of n c got' m : Nat} {L : Nat → List (List Nat)} {kn br : Bool} {A : Option Addr} {rs : List RowV} {o o' : Obj} (h : LT w W F p q g s k b L got of kn A n c rs got' br) (hm : w.heap.size + 6 ≤ m) (hb : W.heap[m]? = some o) (hc : o.isCells = false) : LT w (W.putObj m o') F p q g s k b L got of kn A n c rs got' br :=
  have t := turned_putObj W m o'
  have hq := h.ql
  ⟨h.sk.turned t (by omega), h.y.turned t fun a ha e => by have := h.fl a ha; omega, h.fl, h.ql, h.rel, OwnRows.turned h.own t fun x e => by
    obtain ⟨-, cur, h2⟩ := ownblock_cells h.own e
    exact ne_of_cells hb hc h2, fun r hr => (h.rows r hr).turned t fun x e => by
    obtain ⟨-, cur, h2⟩ := ownblock_cells (h.rows r hr).1 e
    exact ne_of_cells hb hc h2, h.t.trans t fun j e => Or.inr (by omega), boxed_later h.b1 t (by omega), boxed_later h.b2 t (by omega)⟩
/-- What Release tells. -/
def LTold (w : World) (F : Nat → Prop) (p q g s k b : Nat) (L : Nat → List (List Nat)) (got of : Nat) (kn : Bool) (e : Ending) (w' : World) : Prop :=
  ∃ (A : Option Addr) (n c : Nat) (rs : List RowV) (n' : Nat) (br : Bool), e = .returned (.tuple #[.slice A n c, .int .i64 (if br then 5 else 0)]) ∧ RelT g s k b L got (rowsXs rs) n' br ∧
    OwnRows w' w.heap.size 43 A n c rs ∧ (∀ r ∈ rs, Own w' w.heap.size 5 r.A r.n r.c r.xs) ∧ SnkR w' q (g : Int) (s : Int) n' of kn br ∧ RelR w' F p g s k b L ∧ Turned (fun a => a = q) w w'
theorem LT.out {w W : World} {F : Nat → Prop} {p q g s k b got of n c got' : Nat} {L : Nat → List (List Nat)} {kn br : Bool} {A : Option Addr} {rs : List RowV} (h : LT w W F p q g s k b L got of kn A n c rs got' br) :
    LTold w F p q g s k b L got of kn (.returned (.tuple #[.slice A n c, .int .i64 (if br then 5 else 0)])) W :=
  ⟨A, n, c, rs, got', br, rfl, h.rel, OwnRows.lowerB h.own (by omega), fun r hr => (h.rows r hr).lower (by omega), h.sk, h.y, h.t⟩
end Go.Proofs.YtgelalbmhllccaaGreat
/- The landed sink: its iterator. -/
namespace Go.Proofs.YtgelalbmhllccaaGreat
open Go.RowKit Lin
set_option linter.unusedVariables false
set_option linter.unusedSimpArgs false
attribute [local go_sem] Oper.semAt_some
theorem yield_cases {e : Ending} {X Y : Prop} (h : (e = .returned (.bool true) ∧ X) ∨ (e = .returned (.bool false) ∧ Y)) : ∃ bb : Bool, e = .returned (.bool bb) ∧ (bb = true → X) ∧ (bb = false → Y) := by
  rcases h with ⟨rfl, h⟩ | ⟨rfl, h⟩
  · exact ⟨true, rfl, fun _ => h, fun e => (by cases e)⟩
  · exact ⟨false, rfl, fun e => (by cases e), fun _ => h⟩
section
variable {F : Nat → Prop} {p q g s k b of : Nat} {L : Nat → List (List Nat)} {kn : Bool}
set_option maxRecDepth 100000 in
set_option maxHeartbeats 4000000 in
theorem ready_any (m B Bk Bb got : Nat) (hm : 1 ≤ m) (J : Nat → World → Prop) (hB : ∀ n W, J n W → SnkB W F p q g s k b of L kn Bk Bb n) (hJ : ∀ n W W', J n W → Keep W W' → J n W') (hsz : ∀ n W, J n W → B ≤ W.heap.size) :
    HandsP Fence.wide m Tryz.prog 70 #[] #[.pointer (some ⟨Bk, 0, none⟩), .pointer (some ⟨Bb, 0, none⟩)] (fun x : ChV => #[.slice x.A x.r x.c, .int .i64 x.e]) B
      (fun W => J got W)
      (fun W => ∃ n, J n W ∧ ¬ rdyN g k b L n)
      (fun x W => J x.n W ∧ rdyN g k b L x.n ∧ x.e = takeE g s (symN g (L x.n)) ∧ x.xs = takeV g s (symN g (L x.n)) ∧ Own W B 5 x.A x.r x.c x.xs)
      (fun x W => J (x.n + 1) W) := by
  intro l X Ix W hX hY hs hXW
  refine callsIn_of_wp Tryz.func70 rfl trivial ?_ rfl
  simp only [Tryz.ntmps70, List.size_toArray, List.length_cons, List.length_nil, Nat.reduceAdd, Nat.reduceSub, Array.replicate_succ, Array.replicate_zero, List.push_toArray, List.append_toArray, List.nil_append, List.cons_append]
  have ck := (hB _ _ hs).bk.cell
  have c2 := (hB _ _ hs).sk.c2
  gi_wp2
  gi_loopw [4] (fun u wr => ∃ n : Nat, u = .int .u64 (n : Int) ∧ J n wr ∧ X wr) (fun u _ => topN + 1 - (intOf u).toNat)
  case atStart => exact ⟨got, rfl, hs, hXW⟩
  case round =>
    clear ck c2
    obtain ⟨n, rfl, hj, hXw⟩ := hrel
    have HB := Lib.hid (hB _ _ hj)
    have ck := HB.out.bk.cell
    have cb := HB.out.bb.cell
    have c0 := HB.out.sk.c0
    have c1 := HB.out.sk.c1
    have htop : n < 18446744073709551616 := by have := HB.out.sk.top; unfold topN at this; omega
    by_cases hlt : n < topN
    · have d1 : (n : Int) < 1099511627776 := by unfold topN at hlt; omega
      have d2 : decide ((n : Int) < 1099511627776) = true := decide_eq_true d1
      have HSV := Lib.hid (rl_solve_all HB.out.y n htop)
      by_cases hrd : rdyN g k b L n
      · have e1 : ySolveE g k b L n = 0 := by rw [ySolveE, if_pos hrd.1, if_pos hrd.2]
        have e2 : ySolveV g k b L n = symN g (L n) := by rw [ySolveV, if_pos (show winIn b k n = true ∧ (L n).length = g from hrd)]; rfl
        have hsv := HSV.out
        rw [e1, e2] at hsv
        have HRD := Lib.hid hrd
        clear hrd HSV e1 e2
        gi_wp2_with (refine ⟨trivial, ?_⟩; gi_at_call 71; refine (callsIn_wide.2 hsv).mono ?_; rintro e w5 ⟨A5, r5, cc5, rs5, rfl, o5, ho5, hx5, k5⟩)
        have kd := k5.drew
        have hjd := hJ _ _ _ hj kd
        have HBd := Lib.hid (hB _ _ hjd)
        have HTK := Lib.hid (take_solved (L := L) HB.out.sk.may (fun x hx => ((HB.out.y.bas n).ok x hx).1) o5 ho5 hx5 w5.drew (Keep.drew (Keep.refl w5)))
        have xk := HBd.out.bk.cell
        have x0 := HBd.out.sk.c0
        have x1 := HBd.out.sk.c1
        clear ck cb c0 c1 o5 ho5 hx5 hsv
        gi_region_with (first
          | (refine ⟨trivial, ?_⟩; gi_at_call 72; refine (callsIn_wide.2 HTK.out).mono ?_; rintro e w6 ⟨A6, n6, c6, rfl, o6, k6⟩; obtain ⟨fn, tmps, assign, body, hy, hR⟩ := hY ⟨n, A6, n6, c6, takeV g s (symN g (L n)), takeE g s (symN g (L n))⟩ w6 ⟨hJ _ _ _ hjd k6, HRD.out, rfl, rfl, o6.lower (hsz _ _ hjd)⟩ (hX _ _ hXw (KeepsFrom.of_keep (kd.trans k6))))
          | (refine hR.mono ?_; rintro e W3 hc; obtain ⟨bb, rfl, hbt, hbf⟩ := yield_cases hc))
        all_goals clear hy hR hY hX HTK HBd xk x0 x1 hjd hXw hj
        all_goals cases bb with
          | true =>
            obtain ⟨hj3, hx3⟩ := hbt rfl
            clear hbt hbf
            obtain ⟨gp, hgp⟩ : ∃ v, n + 1 = v := ⟨_, rfl⟩
            rw [hgp] at hj3
            have g1 : (n : Int) + 1 = (gp : Int) := by omega
            have g2 : IntKind.u64.wrap (gp : Int) = (gp : Int) := IntWalk.u64_in _ (by unfold topN at hlt; omega)
            have g3 : IntKind.u64.wrap ((n : Int) + 1) = (gp : Int) := by rw [g1]; exact g2
            have HG := Lib.hid hgp
            have HJ3 := Lib.hid (And.intro hj3 hx3)
            clear hgp hj3 hx3
            try simp only [Act.put, List.getElem_toArray, List.getElem_cons_succ, List.getElem_cons_zero, List.setIfInBounds_toArray, List.set_cons_zero, List.set_cons_succ, Bool.not_true, Bool.not_false]
            gi_wp2
            go_roundw
            case rel => exact ⟨gp, rfl, HJ3.out.1, HJ3.out.2⟩
            case measure => (have := HG.out; simp [intOf]; omega)
          | false =>
            have HX3 := Lib.hid (hbf rfl)
            clear hbt hbf
            try simp only [Act.put, List.getElem_toArray, List.getElem_cons_succ, List.getElem_cons_zero, List.setIfInBounds_toArray, List.set_cons_zero, List.set_cons_succ, Bool.not_true, Bool.not_false]
            gi_wp2
            refine bodyPost_ret (results_none rfl _ _ _) rfl ?_
            exact ⟨⟨_, rfl⟩, .inr HX3.out⟩
      · have e1 : ySolveE g k b L n = 24 ∨ ySolveE g k b L n = 23 := by
          rw [ySolveE]
          by_cases hw : winIn b k n = true
          · rw [if_pos hw, if_neg fun e => hrd ⟨hw, e⟩]; exact Or.inl rfl
          · rw [if_neg hw]; exact Or.inr rfl
        have hsv := HSV.out
        have HRD := Lib.hid hrd
        clear hrd HSV c0 c1 hY
        rcases e1 with e1 | e1
        all_goals rw [e1] at hsv
        all_goals clear e1
        all_goals gi_wp2_with (refine ⟨trivial, ?_⟩; gi_at_call 71; refine (callsIn_wide.2 hsv).mono ?_; rintro e w5 ⟨A5, r5, cc5, rs5, rfl, o5, ho5, hx5, k5⟩)
        all_goals have HE := Lib.hid (And.intro (hJ _ _ _ hj k5.drew) (hX _ _ hXw (KeepsFrom.of_keep k5.drew)))
        all_goals clear hJ hX hXw hj ck cb o5 ho5 hx5 hsv
        all_goals (
          refine wpIn_region_any (by kernel_rfl) ?_
          refine wpAnyIn_take (i := 0) (v := ?_) rfl rfl (by kernel_rfl) (by kernel_rfl) (by kernel_rfl) (fun _ _ _ h => h) ⟨Or.inl ⟨by rfl, ?_⟩, fun _ => rfl⟩ ?_
          rotate_left
          · intro wq
            go_simp
            all_goals with_reducible rfl
          try simp only [Act.put, List.getElem_toArray, List.getElem_cons_succ, List.getElem_cons_zero, List.setIfInBounds_toArray, List.set_cons_zero, List.set_cons_succ]
          refine wpAnyIn_take (i := 1) (v := ?_) rfl rfl (by kernel_rfl) (by kernel_rfl) (by kernel_rfl) (fun _ _ _ h => h) ⟨Or.inl ⟨by rfl, ?_⟩, fun _ => rfl⟩ ?_
          rotate_left
          · intro wq
            go_simp
            all_goals with_reducible rfl
          try simp only [Act.put, List.getElem_toArray, List.getElem_cons_succ, List.getElem_cons_zero, List.setIfInBounds_toArray, List.set_cons_zero, List.set_cons_succ]
          refine wpAnyIn_take (i := 2) (v := ?_) rfl rfl (by kernel_rfl) (by kernel_rfl) (by kernel_rfl) (fun _ _ _ h => h) ⟨Or.inl ⟨by rfl, ?_⟩, fun _ => rfl⟩ ?_
          rotate_left
          · intro wq
            go_simp
            all_goals with_reducible rfl
          try simp only [Act.put, List.getElem_toArray, List.getElem_cons_succ, List.getElem_cons_zero, List.setIfInBounds_toArray, List.set_cons_zero, List.set_cons_succ]
          refine wpAnyIn_take (i := 3) (v := undef) rfl rfl (by kernel_rfl) (by kernel_rfl) (by kernel_rfl) (fun _ _ _ h => h) ⟨Or.inr ⟨by rfl, rfl⟩, fun _ => rfl⟩ ?_
          try simp only [Act.put, List.getElem_toArray, List.getElem_cons_succ, List.getElem_cons_zero, List.setIfInBounds_toArray, List.set_cons_zero, List.set_cons_succ]
          refine wpAnyIn_take (i := 4) (v := undef) rfl rfl (by kernel_rfl) (by kernel_rfl) (by kernel_rfl) (fun _ _ _ h => h) ⟨Or.inr ⟨by rfl, rfl⟩, fun _ => rfl⟩ ?_
          try simp only [Act.put, List.getElem_toArray, List.getElem_cons_succ, List.getElem_cons_zero, List.setIfInBounds_toArray, List.set_cons_zero, List.set_cons_succ]
          refine wpAnyIn_take (i := 5) (v := undef) rfl rfl (by kernel_rfl) (by kernel_rfl) (by kernel_rfl) (fun _ _ _ h => h) ⟨Or.inr ⟨by rfl, rfl⟩, fun _ => rfl⟩ ?_
          try simp only [Act.put, List.getElem_toArray, List.getElem_cons_succ, List.getElem_cons_zero, List.setIfInBounds_toArray, List.set_cons_zero, List.set_cons_succ]
          refine wpAnyIn_take (i := 6) (v := undef) rfl rfl (by kernel_rfl) (by kernel_rfl) (by kernel_rfl) (fun _ _ _ h => h) ⟨Or.inr ⟨by rfl, rfl⟩, fun _ => rfl⟩ ?_
          try simp only [Act.put, List.getElem_toArray, List.getElem_cons_succ, List.getElem_cons_zero, List.setIfInBounds_toArray, List.set_cons_zero, List.set_cons_succ]
          refine wpAnyIn_take (i := 7) (v := undef) rfl rfl (by kernel_rfl) (by kernel_rfl) (by kernel_rfl) (fun _ _ _ h => h) ⟨Or.inr ⟨by rfl, rfl⟩, fun _ => rfl⟩ ?_
          try simp only [Act.put, List.getElem_toArray, List.getElem_cons_succ, List.getElem_cons_zero, List.setIfInBounds_toArray, List.set_cons_zero, List.set_cons_succ]
          refine wpAnyIn_take (i := 8) (v := undef) rfl rfl (by kernel_rfl) (by kernel_rfl) (by kernel_rfl) (fun _ _ _ h => h) ⟨Or.inr ⟨by rfl, rfl⟩, fun _ => rfl⟩ ?_
          try simp only [Act.put, List.getElem_toArray, List.getElem_cons_succ, List.getElem_cons_zero, List.setIfInBounds_toArray, List.set_cons_zero, List.set_cons_succ]
          refine wpAnyIn_take (i := 9) (v := undef) rfl rfl (by kernel_rfl) (by kernel_rfl) (by kernel_rfl) (fun _ _ _ h => h) ⟨Or.inr ⟨by rfl, rfl⟩, fun _ => rfl⟩ ?_
          try simp only [Act.put, List.getElem_toArray, List.getElem_cons_succ, List.getElem_cons_zero, List.setIfInBounds_toArray, List.set_cons_zero, List.set_cons_succ]
          refine wpAnyIn_take (i := 10) (v := undef) rfl rfl (by kernel_rfl) (by kernel_rfl) (by kernel_rfl) (fun _ _ _ h => h) ⟨Or.inr ⟨by rfl, rfl⟩, fun _ => rfl⟩ ?_
          try simp only [Act.put, List.getElem_toArray, List.getElem_cons_succ, List.getElem_cons_zero, List.setIfInBounds_toArray, List.set_cons_zero, List.set_cons_succ]
          refine wpAnyIn_take (i := 11) (v := undef) rfl rfl (by kernel_rfl) (by kernel_rfl) (by kernel_rfl) (fun _ _ _ h => h) ⟨Or.inr ⟨by rfl, rfl⟩, fun _ => rfl⟩ ?_
          try simp only [Act.put, List.getElem_toArray, List.getElem_cons_succ, List.getElem_cons_zero, List.setIfInBounds_toArray, List.set_cons_zero, List.set_cons_succ]
          refine wpAnyIn_take (i := 12) (v := undef) rfl rfl (by kernel_rfl) (by kernel_rfl) (by kernel_rfl) (fun _ _ _ h => h) ⟨Or.inr ⟨by rfl, rfl⟩, fun _ => rfl⟩ ?_
          try simp only [Act.put, List.getElem_toArray, List.getElem_cons_succ, List.getElem_cons_zero, List.setIfInBounds_toArray, List.set_cons_zero, List.set_cons_succ]
          refine wpAnyIn_ready (rs := [13]) (by kernel_rfl) (by simp) ?_
          refine AllReadyIn.cons rfl (fun K hK => ?_) AllReadyIn.nil
          go_simp
          refine ⟨trivial, ?_⟩
          refine hK _ _ ?_
          clear hK K
          try simp only [Act.put, List.getElem_toArray, List.getElem_cons_succ, List.getElem_cons_zero, List.setIfInBounds_toArray, List.set_cons_zero, List.set_cons_succ]
          refine wpAnyIn_take (i := 14) (v := undef) rfl rfl (by kernel_rfl) (by kernel_rfl) (by kernel_rfl) (fun _ _ _ h => h) ⟨Or.inr ⟨by rfl, rfl⟩, fun _ => rfl⟩ ?_
          try simp only [Act.put, List.getElem_toArray, List.getElem_cons_succ, List.getElem_cons_zero, List.setIfInBounds_toArray, List.set_cons_zero, List.set_cons_succ]
          refine wpAnyIn_take (i := 15) (v := undef) rfl rfl (by kernel_rfl) (by kernel_rfl) (by kernel_rfl) (fun _ _ _ h => h) ⟨Or.inr ⟨by rfl, rfl⟩, fun _ => rfl⟩ ?_
          try simp only [Act.put, List.getElem_toArray, List.getElem_cons_succ, List.getElem_cons_zero, List.setIfInBounds_toArray, List.set_cons_zero, List.set_cons_succ]
          refine wpAnyIn_ready (rs := [16]) (by kernel_rfl) (by simp) ?_
          refine AllReadyIn.cons rfl (fun K hK => ?_) AllReadyIn.nil
          go_simp
          refine ⟨fun _ h => (by cases h), ?_⟩
          refine hK _ _ ?_
          clear hK K
          try simp only [Act.put, List.getElem_toArray, List.getElem_cons_succ, List.getElem_cons_zero, List.setIfInBounds_toArray, List.set_cons_zero, List.set_cons_succ]
          refine wpAnyIn_take (i := 17) (v := undef) rfl rfl (by kernel_rfl) (by kernel_rfl) (by kernel_rfl) (fun _ _ _ h => h) ⟨Or.inr ⟨by rfl, rfl⟩, fun _ => rfl⟩ ?_
          try simp only [Act.put, List.getElem_toArray, List.getElem_cons_succ, List.getElem_cons_zero, List.setIfInBounds_toArray, List.set_cons_zero, List.set_cons_succ]
          refine wpAnyIn_take (i := 18) (v := ?_) rfl rfl (by kernel_rfl) (by kernel_rfl) (by kernel_rfl) (fun _ _ _ h => h) ⟨Or.inl ⟨by rfl, ?_⟩, fun _ => rfl⟩ ?_
          rotate_left
          · intro wq
            go_simp
            all_goals with_reducible rfl
          try simp only [Act.put, List.getElem_toArray, List.getElem_cons_succ, List.getElem_cons_zero, List.setIfInBounds_toArray, List.set_cons_zero, List.set_cons_succ]
          refine wpAnyIn_done (by kernel_rfl) ?_ _
          gi_wp2
          refine bodyPost_ret (results_none rfl _ _ _) rfl ?_
          exact ⟨⟨_, rfl⟩, .inl ⟨⟨n, HE.out.1, HRD.out⟩, HE.out.2⟩⟩)
    · have d1 : ¬ (n : Int) < 1099511627776 := by unfold topN at hlt; omega
      have d2 : decide ((n : Int) < 1099511627776) = false := decide_eq_false d1
      gi_wp2
      go_end0
      exact ⟨⟨_, rfl⟩, .inl ⟨⟨n, hj, fun e => hlt (rdy_top e)⟩, hXw⟩⟩
end
end Go.Proofs.YtgelalbmhllccaaGreat
/- The landed sink: its Release. -/
namespace Go.Proofs.YtgelalbmhllccaaGreat
open Go.RowKit Lin
set_option linter.unusedVariables false
set_option linter.unusedSimpArgs false
attribute [local go_sem] Oper.semAt_some
theorem ismade_any {w : World} {q n of : Nat} {g s : Int} {kn br : Bool} (h : SnkR w q g s n of kn br) : Calls Tryz.prog 38 #[.pointer (some ⟨q, 0, none⟩)] w fun e w' => e = .returned (.bool true) ∧ w' = w := by
  have c0 := h.c0
  have g1 : 0 < g := by have := h.may.1; omega
  have g2 : decide (0 < g) = true := decide_eq_true g1
  clear h
  go_enter Tryz.func38, Tryz.ntmps38
  go_wp2_with fail
  go_ret
  exact ⟨rfl, rfl⟩
theorem ismade_none (w : World) : Calls Tryz.prog 38 #[.pointer none] w fun e w' => e = .returned (.bool false) ∧ w' = w := by
  go_enter Tryz.func38, Tryz.ntmps38
  go_wp2_with fail
  go_ret
  exact ⟨rfl, rfl⟩
theorem results_two {P : Program} {fn : Func} {p1 p2 : Tmp} {t1 t2 : TypeId} (h : fn.results = #[.cell p1 t1, .cell p2 t2]) (tmps : Array Value) (w : World) (g1 g2 : Nat) (v1 v2 : Value)
    (h1 : tmps.getD p1 undef = .pointer (some ⟨g1, 0, none⟩)) (h2 : tmps.getD p2 undef = .pointer (some ⟨g2, 0, none⟩)) (c1 : w.cell? ⟨g1, 0, none⟩ = some v1) (c2 : w.cell? ⟨g2, 0, none⟩ = some v2) (a1 : (isAgg t1).run P w = .ok false w) (a2 : (isAgg t2).run P w = .ok false w) :
    (results fn tmps).run P w = .ok (.tuple #[v1, v2]) w := by
  have h1' : tmps[p1]?.getD undef = .pointer (some ⟨g1, 0, none⟩) := by simpa using h1
  have h2' : tmps[p2]?.getD undef = .pointer (some ⟨g2, 0, none⟩) := by simpa using h2
  simp [results, h, h1', h2', asAddr, go_sem, c1, c2, a1, a2]
section
variable {F : Nat → Prop} {p q g s k b of : Nat} {L : Nat → List (List Nat)} {kn : Bool}
theorem rdynew_any (w : World) : Calls Tryz.prog 39 #[.pointer (some ⟨q, 0, none⟩), .pointer (some ⟨p, 0, none⟩)] w fun e w' => e = .returned (.func (.func 70) #[] #[.pointer (some ⟨w.heap.size, 0, none⟩), .pointer (some ⟨w.heap.size + 1, 0, none⟩)]) ∧ w' = (w.alloc (.cells #[.pointer (some ⟨q, 0, none⟩)] 27)).alloc (.cells #[.pointer (some ⟨p, 0, none⟩)] 34) := by
  go_enter Tryz.func39, Tryz.ntmps39
  go_wp2_with fail
  go_ret
  exact ⟨by simp, rfl⟩
set_option maxRecDepth 100000 in
set_option maxHeartbeats 4000000 in
theorem krel_in {w : World} {got : Nat} (hS : SnkR w q (g : Int) (s : Int) got of kn false) (hR : RelR w F p g s k b L) (hq : ¬ F q) :
    Calls Tryz.prog 10 #[.pointer (some ⟨q, 0, none⟩), .pointer (some ⟨p, 0, none⟩)] w (LTold w F p q g s k b L got of kn) := by
  refine (callsIn_wide (n := 8)).1 ?_
  refine callsIn_of_wp_marks Tryz.func10 rfl trivial ?_ rfl
  simp only [Tryz.ntmps10, List.size_toArray, List.length_cons, List.length_nil, Nat.reduceAdd, Nat.reduceSub, Array.replicate_succ, Array.replicate_zero, List.push_toArray, List.append_toArray, List.nil_append, List.cons_append]
  obtain ⟨w3, hw3⟩ : ∃ v, ((w.alloc (.cells #[.pointer (some ⟨q, 0, none⟩)] 27)).alloc (.cells #[.slice none 0 0] 40)).alloc (.cells #[.int .i64 0] 28) = v := ⟨_, rfl⟩
  have k3 : Keep w w3 := by rw [← hw3]; exact (((Keep.refl w).alloc _ _).alloc _ _).alloc _ _
  have hS3 := hS.keep k3
  have him := ismade_any hS3
  have c5 := hS3.c5
  obtain ⟨B0, hB0⟩ : ∃ v, w.heap.size = v := ⟨_, rfl⟩
  have x0 : w3.heap[B0]? = some (.cells #[.pointer (some ⟨q, 0, none⟩)] 27 (0, 0)) := by
    rw [← hw3, ← hB0]; exact (Below.heap_alloc _ _ _ (by simp; omega)).trans ((Below.heap_alloc _ _ _ (by simp)).trans (heap_alloc_new w _))
  have x1 : w3.heap[B0 + 1]? = some (.cells #[.slice none 0 0] 40 (0, 0)) := by
    have h := heap_alloc_new (w.alloc (.cells #[.pointer (some ⟨q, 0, none⟩)] 27)) (.cells #[.slice none 0 0] 40)
    rw [World.size_alloc] at h
    rw [← hw3, ← hB0]; exact (Below.heap_alloc _ _ _ (by simp)).trans h
  have x2 : w3.heap[B0 + 1 + 1]? = some (.cells #[.int .i64 0] 28 (0, 0)) := by
    have h := heap_alloc_new ((w.alloc (.cells #[.pointer (some ⟨q, 0, none⟩)] 27)).alloc (.cells #[.slice none 0 0] 40)) (.cells #[.int .i64 0] 28)
    rw [World.size_alloc, World.size_alloc] at h
    rw [← hw3, ← hB0]; exact h
  have y0 : w3.cell? ⟨B0, 0, none⟩ = some (.pointer (some ⟨q, 0, none⟩)) := cell_of_row _ _ _ _ _ _ x0
  have hrn := rdynew_any (q := q) (p := p) (w3.alloc (.cells #[.slice none 0 0] 40))
  have s3 : w3.heap.size = B0 + 3 := by rw [← hw3, ← hB0]; simp
  gi_wp2_with first
    | (refine ⟨trivial, ?_⟩; gi_at_call 38; refine (callsIn_wide.2 him).mono ?_; rintro e w4 ⟨rfl, h4⟩; rw [h4]; clear h4)
    | (refine ⟨trivial, ?_⟩; gi_at_call 39; refine (callsIn_wide.2 hrn).mono ?_; rintro e w4 ⟨rfl, h4⟩; rw [h4]; clear h4)
  have k4 : Keep w3 (((w3.alloc (.cells #[.slice none 0 0] 40)).alloc (.cells #[.pointer (some ⟨q, 0, none⟩)] 27)).alloc (.cells #[.pointer (some ⟨p, 0, none⟩)] 34)) := (((Keep.refl w3).alloc _ _).alloc _ _).alloc _ _
  have x3 : (((w3.alloc (.cells #[.slice none 0 0] 40)).alloc (.cells #[.pointer (some ⟨q, 0, none⟩)] 27)).alloc (.cells #[.pointer (some ⟨p, 0, none⟩)] 34)).heap[B0 + 3]? = some (.cells #[.slice none 0 0] 40 (0, 0)) := by
    rw [← s3]; exact (Below.heap_alloc _ _ _ (by simp; omega)).trans ((Below.heap_alloc _ _ _ (by simp)).trans (heap_alloc_new w3 _))
  have x4 : (((w3.alloc (.cells #[.slice none 0 0] 40)).alloc (.cells #[.pointer (some ⟨q, 0, none⟩)] 27)).alloc (.cells #[.pointer (some ⟨p, 0, none⟩)] 34)).heap[B0 + 4]? = some (.cells #[.pointer (some ⟨q, 0, none⟩)] 27 (0, 0)) := by
    have h := heap_alloc_new (w3.alloc (.cells #[.slice none 0 0] 40)) (.cells #[.pointer (some ⟨q, 0, none⟩)] 27)
    rw [World.size_alloc, s3] at h
    exact (Below.heap_alloc _ _ _ (by simp; omega)).trans h
  have x5 : (((w3.alloc (.cells #[.slice none 0 0] 40)).alloc (.cells #[.pointer (some ⟨q, 0, none⟩)] 27)).alloc (.cells #[.pointer (some ⟨p, 0, none⟩)] 34)).heap[B0 + 5]? = some (.cells #[.pointer (some ⟨p, 0, none⟩)] 34 (0, 0)) := by
    have h := heap_alloc_new ((w3.alloc (.cells #[.slice none 0 0] 40)).alloc (.cells #[.pointer (some ⟨q, 0, none⟩)] 27)) (.cells #[.pointer (some ⟨p, 0, none⟩)] 34)
    rw [World.size_alloc, World.size_alloc, s3] at h
    exact h
  obtain ⟨wz, hwz⟩ : ∃ v, (((w3.alloc (.cells #[.slice none 0 0] 40)).alloc (.cells #[.pointer (some ⟨q, 0, none⟩)] 27)).alloc (.cells #[.pointer (some ⟨p, 0, none⟩)] 34)) = v := ⟨_, rfl⟩
  have sz : wz.heap.size = B0 + 6 := by rw [← hwz]; simp [s3]
  rw [hwz] at k4 x3 x4 x5 ⊢
  have hz : wz.heap.size = w.heap.size + 6 := by rw [sz, hB0]
  have kz := k3.trans k4
  have h0 : LI w wz F p q g s k b L got of kn none 0 0 [] got := ⟨hS.keep kz, hR.keep kz, hR.lt, hq, hS.lt, RelI.start g s k b L got, OwnRows.nilR _ _, fun r hr => by simp at hr, Turned.of_keep kz,
    by rw [hB0]; exact (k4.block _ (by omega)).trans x0, by rw [hB0]; exact (k4.block _ (by omega)).trans x1, by rw [hB0]; exact (k4.block _ (by omega)).trans x2, by rw [hB0]; exact x3, by rw [hB0]; exact x4, by rw [hB0]; exact x5, by omega⟩
  have H0 := Lib.hid h0
  clear h0 x0 x1 x2 x3 x4 x5 y0 hwz hw3 k3 k4 kz hS3 him c5 hrn hS hR
  refine wpIn_range_phases rfl (by omega) (gf := 70) (bd := #[]) (lb := #[.pointer (some ⟨B0 + 4, 0, none⟩), .pointer (some ⟨B0 + 5, 0, none⟩)]) ?hg trivial (enters_of Tryz.func70 (by kernel_rfl) rfl) (ready_any (F := F) (p := p) (q := q) (g := g) (s := s) (k := k) (b := b) (of := of) (L := L) (kn := kn) _ wz.heap.size (B0 + 4) (B0 + 5) got (by omega) (fun n W => ∃ A m c rs, LI w W F p q g s k b L got of kn A m c rs n) ?hB ?hJ ?hsz) (fun _ => rfl) (fun cc W => cc = .ret ∧ ∃ A m c rs n, LT w W F p q g s k b L got of kn A m c rs n true) ?h0 ?h1 ?h2 ?h3 ?hx ?b ?assign ?body ?done ?stop
  case hg => simp [s3, go_sem]
  case hB =>
    rintro n W ⟨A, m, c, rs, h⟩
    have h := h.box
    rw [hB0] at h
    exact h
  case hJ =>
    rintro n W W' ⟨A, m, c, rs, h⟩ kp
    exact ⟨A, m, c, rs, h.keep kp⟩
  case hsz =>
    rintro n W ⟨A, m, c, rs, h⟩
    rw [hz]; exact h.sz
  case h0 => exact fun V kp => ⟨_, _, _, _, H0.out.keep kp⟩
  case h1 =>
    rintro x W m o o' ⟨⟨A, r, c, rs, h⟩, h1, h2, h3, h4⟩ hm hb hc
    rw [hz] at hm
    refine ⟨⟨A, r, c, rs, h.abide hm hb hc⟩, h1, h2, h3, h4.turned (turned_putObj W m o') fun x e => ?_⟩
    obtain ⟨-, cur, h5⟩ := ownblock_cells h4.1 e
    exact ne_of_cells hb hc h5
  case h2 =>
    rintro x W m o o' ⟨A, r, c, rs, h⟩ hm hb hc
    exact ⟨A, r, c, rs, h.abide (by omega) hb hc⟩
  case h3 =>
    rintro W m o o' ⟨n, ⟨A, r, c, rs, h⟩, h1⟩ hm hb hc
    exact ⟨n, ⟨A, r, c, rs, h.abide (by omega) hb hc⟩, h1⟩
  case hx =>
    rintro cc W m o o' ⟨rfl, A, r, c, rs, n, h⟩ hm hb hc
    exact ⟨rfl, A, r, c, rs, n, h.abide (by omega) hb hc⟩
  case assign =>
    intro l x W K hK
    simp only [Array.zip_eq_zipWith, List.zipWith_toArray, List.zipWith_cons_cons, List.zipWith_nil_right, List.foldl_toArray, List.foldl_cons, List.foldl_nil, List.setIfInBounds_toArray, List.set_cons_zero, List.set_cons_succ]
    gi_wp2
    exact hK
  case body =>
    rintro l ⟨n, A5, r5, c5, V5, e5⟩ W ⟨⟨A, m, c, rs, hI⟩, hrd, he, hxs, ho⟩ hge
    simp only at hI hrd he hxs ho
    subst hxs
    subst he
    rw [hz] at ho
    have HI := Lib.hid hI
    have HO := Lib.hid ho
    have HRD := Lib.hid hrd
    clear hI ho hrd
    have y0 : W.cell? ⟨B0, 0, none⟩ = some (.pointer (some ⟨q, 0, none⟩)) := by rw [← hB0]; exact HI.out.b0.cell
    have y3 : W.cell? ⟨B0 + 3, 0, none⟩ = some (.slice A m c) := by rw [← hB0]; exact HI.out.b3.cell
    obtain ⟨te, hte⟩ : ∃ v, takeE g s (symN g (L n)) = v := ⟨_, rfl⟩
    obtain ⟨V, hV⟩ : ∃ v, takeV g s (symN g (L n)) = v := ⟨_, rfl⟩
    rw [hV] at HO
    rw [hte]
    have HTE := Lib.hid hte
    have HV := Lib.hid hV
    clear hte hV
    by_cases hok : te = 0
    · subst hok
      have c2 := HI.out.sk.c2
      have hn16 := HI.out.few
      have hge2 : w.heap.size + 6 ≤ W.heap.size := HI.out.sz
      obtain ⟨gp, hgp⟩ : ∃ v, n + 1 = v := ⟨_, rfl⟩
      have HG := Lib.hid hgp
      have htop : n < topN := rdy_top HRD.out
      have g1 : (n : Int) + 1 = (gp : Int) := by omega
      have g2 : IntKind.u64.wrap (gp : Int) = (gp : Int) := IntWalk.u64_in _ (by unfold topN at htop; omega)
      have g3 : IntKind.u64.wrap ((n : Int) + 1) = (gp : Int) := by rw [g1]; exact g2
      clear hgp htop
      gi_wp2_with (gi_at_builtin; refine wpListIn_append_row rfl _ _ 40 rfl ⟨A5, r5, c5, V⟩ Tryz.underlying40 infoRow rfl (HI.out.own.alloc _) rfl (by rw [World.cell?_alloc_at _ _ _ _ (by simp)]; rfl) (by omega) (by simp; omega) ?_; intro A9 c9 w9 hown' hgrow; have kT : Turned (fun a => (Value.slice A m c).ownBlock = some a) W w9 := (Turned.of_keep (F := fun a => (Value.slice A m c).ownBlock = some a) ((Keep.refl W).alloc _ _)).trans (Turned.of_grown (F := fun a => (Value.slice A m c).ownBlock = some a) hgrow fun i e => e) fun i e => Or.inl e; obtain ⟨f1, f2, f3, f4, f5, f6, f7⟩ := HI.out.cells kT; rw [hB0] at f1 f2 f5 f6 f7)
      have hm := HI.out.more (r := ⟨A5, r5, c5, V⟩) HRD.out HTE.out HV.out.symm HO.out hown' kT
      have hk := HI.out.kf kT (.slice A9 (m + 1) c9) (.int .u64 ((n + 1 : Nat) : Int)) wz.heap.size
      rw [HG.out] at hm hk
      rw [hB0] at hm hk
      refine ⟨hk, ?_⟩
      show ∃ A m c rs, LI w _ F p q g s k b L got of kn A m c rs (n + 1)
      rw [HG.out]
      exact ⟨_, _, _, _, hm⟩
    · have hb0 : (te == 0) = false := by rw [beq_eq_false_iff_ne]; exact hok
      have hb1 : (te != 0) = true := by rw [bne, hb0]; rfl
      have z5 := HI.out.sk.free 5
      have y5 := HI.out.sk.c5
      have n1 : ¬ q = B0 + 1 := by have := HI.out.ql; omega
      have n1' : ¬ B0 + 1 = q := by omega
      have n2 : ¬ q = B0 + 1 + 1 := by have := HI.out.ql; omega
      have n2' : ¬ B0 + 1 + 1 = q := by omega
      have n3 : ¬ q = B0 + 3 := by have := HI.out.ql; omega
      have n3' : ¬ B0 + 3 = q := by omega
      have z1 : W.frozen? ⟨B0 + 1, 0, none⟩ = false := by rw [← hB0]; exact HI.out.b1.frozen
      have y1 : W.cell? ⟨B0 + 1, 0, none⟩ = some (.slice none 0 0) := by rw [← hB0]; exact HI.out.b1.cell
      have z2 : W.frozen? ⟨B0 + 1 + 1, 0, none⟩ = false := by rw [← hB0]; exact HI.out.b2.frozen
      have y2 : W.cell? ⟨B0 + 1 + 1, 0, none⟩ = some (.int .i64 0) := by rw [← hB0]; exact HI.out.b2.cell
      gi_wp2
      have hm := HI.out.broke HRD.out (by rw [HTE.out]; exact hok)
      have hk := HI.out.kfb (.bool true) (.slice A m c) (.int .i64 5) wz.heap.size
      rw [hB0] at hm hk
      exact ⟨hk, rfl, _, _, _, _, _, hm⟩
  case done =>
    rintro D W hD ⟨n, ⟨A, m, c, rs, hI⟩, hrd⟩ hK
    have HI := Lib.hid hI
    have HRD := Lib.hid hrd
    have HK := Lib.hid hK
    clear hI hrd hK
    have y3 : W.cell? ⟨B0 + 3, 0, none⟩ = some (.slice A m c) := by rw [← hB0]; exact HI.out.b3.cell
    have z1 : W.frozen? ⟨B0 + 1, 0, none⟩ = false := by rw [← hB0]; exact HI.out.b1.frozen
    have y1 : W.cell? ⟨B0 + 1, 0, none⟩ = some (.slice none 0 0) := by rw [← hB0]; exact HI.out.b1.cell
    have z2 : W.frozen? ⟨B0 + 1 + 1, 0, none⟩ = false := by rw [← hB0]; exact HI.out.b2.frozen
    have y2 : W.cell? ⟨B0 + 1 + 1, 0, none⟩ = some (.int .i64 0) := by rw [← hB0]; exact HI.out.b2.cell
    gi_wp2
    have hK2 : ((W.setCell ⟨B0 + 1, 0, none⟩ (.slice A m c)).setCell ⟨B0 + 1 + 1, 0, none⟩ (.int .i64 0)).heap[D]? = some (.deferred (some [])) := (Below.heap_setCell _ _ _ D (by simp; omega)).trans ((Below.heap_setCell _ _ _ D (by simp; omega)).trans HK.out)
    have hT := HI.out.told HRD.out
    rw [hB0] at hT
    have hT2 := LT.abide (o' := .deferred none) hT (by omega) hK2 rfl
    have b1 := hT2.b1.cell
    have b2 := hT2.b2.cell
    rw [hB0] at b1 b2
    refine ⟨by simp, .inl ⟨_, _, rfl, run_takeDeferred hK2, ?_⟩⟩
    exact ⟨_, results_two rfl _ _ _ _ _ _ rfl rfl b1 b2 (by simp [isAgg, go_sem, Tryz.underlying40]) (by simp [isAgg, go_sem, Tryz.underlying28]), hT2.out⟩
  case stop =>
    rintro D cc W hD ⟨rfl, A, m, c, rs, n, hT⟩ hK
    have hT2 := LT.abide (o' := .deferred none) hT (by omega) hK rfl
    have b1 := hT2.b1.cell
    have b2 := hT2.b2.cell
    rw [hB0] at b1 b2
    have HT := Lib.hid hT2
    clear hT hT2
    gi_wp2
    refine ⟨by simp, .inl ⟨_, _, rfl, run_takeDeferred hK, ?_⟩⟩
    exact ⟨_, results_two rfl _ _ _ _ _ _ rfl rfl b1 b2 (by simp [isAgg, go_sem, Tryz.underlying40]) (by simp [isAgg, go_sem, Tryz.underlying28]), HT.out.out⟩
end
end Go.Proofs.YtgelalbmhllccaaGreat
