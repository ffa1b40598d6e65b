/- BasisPlays: the code's basis and the document's own, side by side in memory. -/
import Derived.Test.YticllkklbogcnaaRb
import Derived.Test.YticllkklbogcnaaBawake
import Derived.Test.YticllkklbogcnaaMine
import Derived.Test.YticllkklbogcnaaActs
import Derived.Test.YticllkklbogcnaaBsol2
namespace Go.Proofs.Yticllkklbogcnaa
open Go.RowKit Lin
set_option linter.unusedVariables false
/-- Both bases; what stands in blocks of Q is as in wq. -/
structure PlayM (w wr : World) (g s pb rb bi br : Nat) (B : List (List Nat)) (iv : List Bool) (R : List PairV) (Fb Fr Q : Nat → Prop) (wq : World) : Prop where
  bas : BasR wr Fb pb g s B
  ref : RefR wr Fr rb g s bi br iv R
  ap : ∀ x, Fb x → ¬ Fr x
  lb : ∀ x, Fb x → w.heap.size ≤ x
  lr : ∀ x, Fr x → w.heap.size ≤ x
  q : ∀ x, Q x → x < wr.heap.size ∧ ¬ Fb x ∧ ¬ Fr x ∧ wr.heap[x]? = wq.heap[x]?
  keep : Keep w wr
namespace PlayM
variable {w wr w2 wq : World} {g s pb rb bi br : Nat} {B : List (List Nat)} {iv : List Bool} {R : List PairV} {Fb Fr Q G : Nat → Prop}
theorem fb (h : PlayM w wr g s pb rb bi br B iv R Fb Fr Q wq) : ∀ x, Fb x → x < wr.heap.size := fun x hx => h.bas.fine.2.2.2.2.2 x hx
theorem later (h : PlayM w wr g s pb rb bi br B iv R Fb Fr Q wq) (k : Keep wr w2) : PlayM w w2 g s pb rb bi br B iv R Fb Fr Q wq :=
  ⟨h.bas.keep k, h.ref.keep k, h.ap, h.lb, h.lr, fun x hx => by
    obtain ⟨a, b, c, d⟩ := h.q x hx
    exact ⟨Nat.lt_of_lt_of_le a k.size, b, c, (k.block x a).trans d⟩, h.keep.trans k⟩
/-- Something else has turned. -/
theorem other (h : PlayM w wr g s pb rb bi br B iv R Fb Fr Q wq) (t : Turned G wr w2) (hG : ∀ x, G x → w.heap.size ≤ x ∧ ¬ Fb x ∧ ¬ Fr x ∧ ¬ Q x) : PlayM w w2 g s pb rb bi br B iv R Fb Fr Q wq :=
  ⟨h.bas.turned t fun x hx e => (hG x e).2.1 hx, h.ref.turned t fun x hx e => (hG x e).2.2.1 hx, h.ap, h.lb, h.lr, fun x hx => by
    obtain ⟨a, b, c, d⟩ := h.q x hx
    exact ⟨Nat.lt_of_lt_of_le a t.size, b, c, (t.block x a fun e => (hG x e).2.2.2 hx).trans d⟩, t.keep h.keep fun x e => (hG x e).1⟩
/-- The code's basis has turned. -/
theorem putB (h : PlayM w wr g s pb rb bi br B iv R Fb Fr Q wq) {F4 : Nat → Prop} {B4 : List (List Nat)} (r : BasR w2 F4 pb g s B4) (f : ∀ x, F4 x → Fb x ∨ wr.heap.size ≤ x) (t : Turned Fb wr w2) : PlayM w w2 g s pb rb bi br B4 iv R F4 Fr Q wq := by
  have hs := h.keep.size
  refine ⟨r, h.ref.turned t fun x hx e => h.ap x e hx, fun x hx e => ?_, fun x hx => ?_, h.lr, fun x hx => ?_, t.keep h.keep fun x e => h.lb x e⟩
  · rcases f x hx with e2 | e2
    · exact h.ap x e2 e
    · have := h.ref.lt x e; omega
  · rcases f x hx with e2 | e2
    · exact h.lb x e2
    · omega
  · obtain ⟨a, b, c, d⟩ := h.q x hx
    refine ⟨Nat.lt_of_lt_of_le a t.size, fun e => ?_, c, (t.block x a b).trans d⟩
    rcases f x e with e2 | e2
    · exact b e2
    · omega
/-- The document's own has turned. -/
theorem putR (h : PlayM w wr g s pb rb bi br B iv R Fb Fr Q wq) {F4 : Nat → Prop} {iv4 : List Bool} {R4 : List PairV} (r : RefR w2 F4 rb g s bi br iv4 R4) (f : ∀ x, F4 x → Fr x ∨ wr.heap.size ≤ x) (t : Turned Fr wr w2) : PlayM w w2 g s pb rb bi br B iv4 R4 Fb F4 Q wq := by
  have hs := h.keep.size
  refine ⟨h.bas.turned t fun x hx e => h.ap x hx e, r, fun x hx e => ?_, h.lb, fun x hx => ?_, fun x hx => ?_, t.keep h.keep fun x e => h.lr x e⟩
  · rcases f x e with e2 | e2
    · exact h.ap x hx e2
    · have := h.fb x hx; omega
  · rcases f x hx with e2 | e2
    · exact h.lr x e2
    · omega
  · obtain ⟨a, b, c, d⟩ := h.q x hx
    refine ⟨Nat.lt_of_lt_of_le a t.size, b, fun e => ?_, (t.block x a c).trans d⟩
    rcases f x e with e2 | e2
    · exact c e2
    · omega
/-- Other blocks are looked after. -/
theorem reQ (h : PlayM w wr g s pb rb bi br B iv R Fb Fr Q wq) (k : Keep wr w2) {Q' : Nat → Prop} (hQ : ∀ x, Q' x → Q x ∨ (wr.heap.size ≤ x ∧ x < w2.heap.size)) : PlayM w w2 g s pb rb bi br B iv R Fb Fr Q' w2 :=
  ⟨h.bas.keep k, h.ref.keep k, h.ap, h.lb, h.lr, fun x hx => by
    rcases hQ x hx with e | e
    · obtain ⟨a, b, c, d⟩ := h.q x e
      exact ⟨Nat.lt_of_lt_of_le a k.size, b, c, rfl⟩
    · exact ⟨e.2, fun e2 => by have := h.fb x e2; omega, fun e2 => by have := h.ref.lt x e2; omega, rfl⟩, h.keep.trans k⟩
theorem noQ (h : PlayM w wr g s pb rb bi br B iv R Fb Fr Q wq) : PlayM w wr g s pb rb bi br B iv R Fb Fr (fun _ => False) w :=
  ⟨h.bas, h.ref, h.ap, h.lb, h.lr, fun x hx => hx.elim, h.keep⟩
/-- The basis is a copy from now on. -/
theorem copy (h : PlayM w wr g s pb rb bi br B iv R Fb Fr Q wq) {F4 : Nat → Prop} {pc : Nat} (r : BasR w2 F4 pc g s B) (f : ∀ x, F4 x → wr.heap.size ≤ x) (k : Keep wr w2) : PlayM w w2 g s pc rb bi br B iv R F4 Fr Q wq := by
  have hs := h.keep.size
  refine ⟨r, h.ref.keep k, fun x hx e => by have h1 := f x hx; have h2 := h.ref.lt x e; omega, fun x hx => by have := f x hx; omega, h.lr, fun x hx => ?_, h.keep.trans k⟩
  obtain ⟨a, b, c, d⟩ := h.q x hx
  exact ⟨Nat.lt_of_lt_of_le a k.size, fun e => by have := f x e; omega, c, (k.block x a).trans d⟩
end PlayM
theorem pairs_eq {g : Nat} {l l' : List PairV} (h : l.map PairV.xs = l'.map PairV.xs) (hl : ∀ p ∈ l, p.a.xs.length = g) (hl' : ∀ p ∈ l', p.a.xs.length = g) : pairXs l = pairXs l' := by
  have cut : ∀ {l : List PairV}, (∀ p ∈ l, p.a.xs.length = g) → pairXs l = (l.map PairV.xs).map fun x => (x.take g, x.drop g) := fun {l} hl => by
    rw [pairXs, List.map_map]
    refine List.map_congr_left fun p hp => ?_
    have e := hl p hp
    show _ = ((p.a.xs ++ p.b.xs).take g, (p.a.xs ++ p.b.xs).drop g)
    rw [List.take_left' e, List.drop_left' e]
  rw [cut hl, cut hl', h]
theorem sel_lens {g s : Nat} {iv : List Bool} {R : List PairV} {B : List (List Nat)} (h : Slots g s iv R B) : ∀ p ∈ selP iv R, p.a.xs.length = g := fun p hp => by
  obtain ⟨k, hk⟩ := List.getElem?_of_mem hp
  obtain ⟨i, h1, h2⟩ := selP_mem iv R k p hk
  exact (h.size i p h1 h2).1
theorem Bytes.nothing (w : World) (B : Nat) (A : Option Addr) : Bytes w B A 0 [] := ⟨rfl, fun _ h => by simp at h, fun h => absurd h (by omega)⟩
theorem stu_apart {w : World} {base base' n n' c c' : Nat} {A A' : Option Addr} {xs : List Nat} {ps : List PairV} (h : Own w base 5 A n c xs) (h' : OwnSt w base' A' n' c' ps) : ∀ x, (Value.slice A n c).ownBlock = some x → (Value.slice A' n' c').ownBlock ≠ some x := fun x hx e => by
  rcases h.1.2 with ⟨hv, _⟩ | ⟨g, cap, cur, hv, _, hh, _⟩
  · rw [hv] at hx; cases hx
  · rcases h'.2 with ⟨hv', _⟩ | ⟨g', cap', cur', hv', _, hh', _⟩
    · rw [hv'] at e; cases e
    · rw [hv] at hx
      rw [hv'] at e
      obtain rfl : g = x := by simpa [Value.ownBlock] using hx
      obtain rfl : g' = g := by simpa [Value.ownBlock] using e
      rw [hh] at hh'
      simp at hh'
/-- Symbols told by both; those of the code are turned one by one. -/
structure SolvL (wz : World) (lo g kk : Nat) (A5 : Option Addr) (c5 : Nat) (rs : List RowV) (A6 : Option Addr) (c6 : Nat) (rs6 : List RowV) (Fr : Nat → Prop) : Prop where
  x : OwnRows wz lo 31 A5 g c5 rs
  xs : ∀ (j : Nat) (r : RowV), kk ≤ j → rs[j]? = some r → Own wz lo 5 r.A r.n r.c r.xs
  y : OwnRows wz lo 31 A6 g c6 rs6
  ys : ∀ r ∈ rs6, LiesIn wz Fr r
  inc : ∀ (i j : Nat) (r r' : RowV), i < j → rs[i]? = some r → rs[j]? = some r' → ∀ x y, (Value.slice r.A r.n r.c).ownBlock = some x → (Value.slice r'.A r'.n r'.c).ownBlock = some y → x < y
  fr : ∀ x, Fr x → x < lo
theorem SolvL.flip {wz : World} {lo g kk g2 cr : Nat} {A5 A6 : Option Addr} {c5 c6 n2 : Nat} {rs rs6 : List RowV} {Fr : Nat → Prop} {xr : List Nat} (h : SolvL wz lo g kk A5 c5 rs A6 c6 rs6 Fr) (hr : rs[kk]? = some ⟨some ⟨g2, 0, none⟩, n2, cr, xr⟩) (v : Value) :
    SolvL (wz.setCell ⟨g2, 0, none⟩ v) lo g (kk + 1) A5 c5 rs A6 c6 rs6 Fr ∧ lo ≤ g2 := by
  have T : Turned (fun x => x = g2) wz (wz.setCell ⟨g2, 0, none⟩ v) := Turned.set (F := fun x => x = g2) wz ⟨g2, 0, none⟩ v rfl
  have ho := h.xs kk _ (Nat.le_refl _) hr
  have hlo := (ho.1.lt g2 rfl).1
  refine ⟨⟨h.x.turned T fun b hb e => ?_, fun j r hj hrj => (h.xs j r (by omega) hrj).turned T fun b hb e => ?_, h.y.turned T fun b hb e => ?_, fun r hr6 => (h.ys r hr6).turned T fun b hb e => ?_, h.inc, h.fr⟩, hlo⟩
  · subst e
    rcases blocks_apart ho h.x (by decide) with z | z
    · cases z
    · exact z hb.symm
  · subst e
    have := h.inc kk j _ r (by omega) hr hrj b b rfl hb
    omega
  · subst e
    rcases blocks_apart ho h.y (by decide) with z | z
    · cases z
    · exact z hb.symm
  · have := h.fr b hb
    omega
/-- The least of a number and 13. -/
theorem run_min13 (a m : Nat) (h : min a 13 = m) (w : World) : (Builtin.min_ #[3, 3] 3 #[.int .i64 (a : Int), .int .i64 13]).run Try.prog w = .ok (.int .i64 (m : Int)) w := by
  rw [run_min_int2]; congr 2; split <;> omega
end Go.Proofs.Yticllkklbogcnaa
