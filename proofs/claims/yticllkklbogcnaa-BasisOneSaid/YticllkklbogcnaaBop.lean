/- BasisOne: two bases and the rows that are left, in memory. -/
import Derived.Test.YticllkklbogcnaaBset
import Derived.Test.YticllkklbogcnaaStApp
import Derived.Test.YticllkklbogcnaaBas
namespace Go.Proofs.Yticllkklbogcnaa
open Go.RowKit Lin
set_option linter.unusedVariables false
/-- Two bases, and the rows left. -/
structure OneM (N g s b vc nl cl : Nat) (ps lefts : List PairV) (B C : List (List Nat)) (F Fc : Nat → Prop) (Al : Option Addr) (w1 wr : World) : Prop where
  base : w1.heap.size = N
  basB : BasR wr F b g s B
  basC : BasR wr Fc vc g s C
  own : OwnSt wr N Al nl cl lefts
  mem : ∀ p ∈ lefts, p ∈ ps
  apF : ∀ x, F x → N ≤ x
  apC : ∀ x, Fc x → N ≤ x ∧ ¬ F x ∧ (Value.slice Al nl cl).ownBlock ≠ some x
  keep : Keep w1 wr
section
variable {N g s b vc nl cl k : Nat} {M : List (List Nat)} {As Ar : Option Addr} {rss : List RowV} {ps lefts : List PairV} {B C : List (List Nat)} {F Fc : Nat → Prop} {Al : Option Addr} {w1 wr w2 w3 : World}
theorem ownSt_lit (w : World) : OwnSt (w.alloc (.cells #[] 33)) w.heap.size (some ⟨w.heap.size, 0, none⟩) 0 0 [] := by
  have h := World.ownsRow_lit (w := w) (base := w.heap.size) (e := 33) (size := 2) #[] 0 (Nat.le_refl _) (by decide) (by simp)
  simpa [OwnSt] using h
namespace OneM
theorem later (h : OneM N g s b vc nl cl ps lefts B C F Fc Al w1 wr) (kp : Keep wr w2) : OneM N g s b vc nl cl ps lefts B C F Fc Al w1 w2 :=
  ⟨h.base, h.basB.keep kp, h.basC.keep kp, h.own.keep kp, h.mem, h.apF, h.apC, h.keep.trans kp⟩
theorem size (h : OneM N g s b vc nl cl ps lefts B C F Fc Al w1 wr) : N ≤ wr.heap.size := by rw [← h.base]; exact h.keep.size
/-- The second basis has turned. -/
theorem put (h : OneM N g s b vc nl cl ps lefts B C F Fc Al w1 wr) {C4 : List (List Nat)} {F4 : Nat → Prop} (r : BasR w2 F4 vc g s C4) (f : ∀ x, F4 x → Fc x ∨ wr.heap.size ≤ x) (t : Turned Fc wr w2) : OneM N g s b vc nl cl ps lefts B C4 F F4 Al w1 w2 := by
  have hs := h.size
  refine ⟨h.base, h.basB.turned t fun x hx hc => (h.apC x hc).2.1 hx, r, h.own.turned t fun x hx hc => (h.apC x hc).2.2 hx, h.mem, h.apF, fun x hx => ?_, t.keep h.keep fun x hx => by rw [h.base]; exact (h.apC x hx).1⟩
  rcases f x hx with e | e
  · exact h.apC x e
  · exact ⟨by omega, fun hF => by have := h.basB.fine.2.2.2.2.2 x hF; omega, fun e2 => by have := (h.own.lt x e2).2; omega⟩
/-- The rows left are others. -/
theorem other (h : OneM N g s b vc nl cl ps lefts B C F Fc Al w1 wr) {A2 : Option Addr} {n2 c2 : Nat} {l2 : List PairV} (kp : Keep wr w2) (ho : OwnSt w2 wr.heap.size A2 n2 c2 l2) (hm : ∀ p ∈ l2, p ∈ lefts) : OneM N g s b vc n2 c2 ps l2 B C F Fc A2 w1 w2 :=
  ⟨h.base, h.basB.keep kp, h.basC.keep kp, ho.lower h.size, fun p hp => h.mem p (hm p hp), h.apF, fun x hx => ⟨(h.apC x hx).1, (h.apC x hx).2.1, fun e => by
    have h1 := (ho.lt x e).1
    have h2 := h.basC.fine.2.2.2.2.2 x hx
    omega⟩, h.keep.trans kp⟩
/-- The rows left, to be read. -/
theorem stIn (h : OneM N g s b vc nl cl ps lefts B C F Fc Al w1 wr) (hS : Setup N w1 g s M As rss Ar k ps) : StIn wr (fun x => x < N ∨ (Value.slice Al nl cl).ownBlock = some x) Al nl lefts :=
  OwnSt.stIn h.own (fun p hp => by
    have := (hS.keep h.keep).rows.2.1 p (h.mem p hp)
    exact ⟨this.1.mono fun x hx => Or.inl hx, this.2.mono fun x hx => Or.inl hx⟩) fun x hx => Or.inr hx
theorem ltL (h : OneM N g s b vc nl cl ps lefts B C F Fc Al w1 wr) : ∀ x, (x < N ∨ (Value.slice Al nl cl).ownBlock = some x) → x < wr.heap.size := fun x hx => by
  rcases hx with e | e
  · have := h.size; omega
  · exact (h.own.lt x e).2
end OneM
/-- What is so of them. -/
structure OneP (g s : Nat) (M W : List (List Nat)) (C : List (List Nat)) (lefts : List PairV) : Prop where
  bas : Bas g s C
  sym : Within C.length (fn C) g (symR g M)
  span : SameSpan (C ++ lefts.map PairV.xs) W
theorem OneP.start {W : List (List Nat)} (hW : W = ps.map PairV.xs) : OneP g s M W [] ps := ⟨Bas.nil g s, fun i hi => by simp at hi, by rw [hW, List.nil_append]; exact SameSpan.refl _⟩
theorem mem_split {α : Type} {l : List α} {i : Nat} {p : α} (h : l[i]? = some p) (x : α) : x ∈ l ↔ x = p ∨ x ∈ l.take i ++ l.drop (i + 1) := by
  have hi := (List.getElem?_eq_some_iff.1 h).1
  have e : l = l.take i ++ p :: l.drop (i + 1) := by
    have h1 : l.drop i = p :: l.drop (i + 1) := by rw [List.drop_eq_getElem_cons hi, (List.getElem?_eq_some_iff.1 h).2]
    rw [← h1, List.take_append_drop]
  constructor
  · intro hx
    rw [e, List.mem_append, List.mem_cons] at hx
    rcases hx with h1 | h1 | h1
    · exact Or.inr (List.mem_append.2 (Or.inl h1))
    · exact Or.inl h1
    · exact Or.inr (List.mem_append.2 (Or.inr h1))
  · rintro (rfl | hx)
    · exact List.mem_of_getElem? h
    · rcases List.mem_append.1 hx with h1 | h1
      · exact List.mem_of_mem_take h1
      · exact List.mem_of_mem_drop h1
/-- A row is taken out and put in. -/
theorem OneP.step {W : List (List Nat)} (h : OneP g s M W C lefts) {i : Nat} {p : PairV} (hp : lefts[i]? = some p) (hl : p.xs.length = g + s) (ha : AllB p.xs) (hr : InSpan g (symR g M) (vec p.xs)) :
    OneP g s M W (insB g s C p.xs) (lefts.take i ++ lefts.drop (i + 1)) := by
  refine ⟨insB_bas h.bas hl ha, (insB_sym h.bas h.sym hl ha hr).2.1, ?_⟩
  refine SameSpan.trans (one_step (left := lefts.map PairV.xs) h.bas h.sym hl ha hr fun r => ?_) h.span
  constructor
  · intro hr
    obtain ⟨q, hq, rfl⟩ := List.mem_map.1 hr
    rcases (mem_split hp q).1 hq with e | e
    · exact Or.inl (by rw [e])
    · exact Or.inr (List.mem_map.2 ⟨q, e, rfl⟩)
  · rintro (rfl | hr)
    · exact List.mem_map.2 ⟨p, List.mem_of_getElem? hp, rfl⟩
    · obtain ⟨q, hq, rfl⟩ := List.mem_map.1 hr
      exact List.mem_map.2 ⟨q, (mem_split hp q).2 (Or.inr hq), rfl⟩
/-- Rows told of one basis are the same rows. -/
theorem pairs_same {w w' v v' : World} {A A' : Option Addr} {n n' c c' : Nat} {qs rs : List PairV} (h : OwnedSt w w' A n c g s B qs) (h' : OwnedSt v v' A' n' c' g s B rs) : pairXs qs = pairXs rs := by
  have hm := h.2.2.1.trans h'.2.2.1.symm
  have cut : ∀ {l : List PairV}, (∀ p ∈ l, p.a.xs.length = g) → pairXs l = (l.map PairV.xs).map fun x => (x.take g, x.drop g) := fun {l} hl => by
    rw [pairXs, List.map_map]
    refine List.map_congr_left fun p hp => ?_
    have e := hl p hp
    show _ = ((p.a.xs ++ p.b.xs).take g, (p.a.xs ++ p.b.xs).drop g)
    rw [List.take_left' e, List.drop_left' e]
  rw [cut fun p hp => by have := h.2.1 p hp; rw [this.1.length]; exact this.2.2.1, cut fun p hp => by have := h'.2.1 p hp; rw [this.1.length]; exact this.2.2.1, hm]
end
end Go.Proofs.Yticllkklbogcnaa
