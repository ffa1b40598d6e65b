/- Rows put into a basis, their coefficients into a list: what stands behind each. -/
import Derived.Test.YticllkklbogcnaaBfp
namespace Go.Proofs.Yticllkklbogcnaa
open Lin Go.RowKit
set_option linter.unusedVariables false
theorem none_in {g s : Nat} {V : List Nat} (hl : V.length = g) : inB g s [] (V ++ List.replicate s 0) ↔ vLead g V < 0 := by
  have e : ∀ i, i < g → (leftB (g + s) [] (V ++ List.replicate s 0)).getD i 0 = V.getD i 0 := fun i hi => by
    show (V ++ List.replicate s 0).getD i 0 = _
    rw [List.getD_eq_getElem?_getD, List.getElem?_append_left (by omega), List.getD_eq_getElem?_getD]
  constructor
  · exact fun h => vLead_neg fun i hi => by rw [← e i hi]; exact vLead_none h i hi
  · exact fun h => vLead_neg fun i hi => by rw [e i hi]; exact vLead_none h i hi
/-- Behind j rows. -/
structure SpL (N g s b vb k : Nat) (M W : List (List Nat)) (As : Option Addr) (rss : List RowV) (Ar : Option Addr) (ps : List PairV) (V : List Nat) (w : World) (j : Nat) (F : Nat → Prop) (Al : Option Addr) (cl : Nat) (wr : World) : Prop where
  bas : BasR wr F b g s (basK g s W j)
  fN : ∀ x, F x → N ≤ x
  set : Setup N wr g s M As rss Ar k ps
  own : OwnRows wr N 31 Al j cl ((ps.map PairV.a).take j)
  apart : ∀ x, (Value.slice Al j cl).ownBlock = some x → ¬ F x
  vec : Own wr N 5 (some ⟨vb, 0, none⟩) g g V
  vF : ¬ F vb
  vl : ∀ x, (Value.slice Al j cl).ownBlock = some x → x ≠ vb
  hN : w.heap.size ≤ N
  keep : Keep w wr
namespace SpL
variable {N g s b vb k : Nat} {M W : List (List Nat)} {As : Option Addr} {rss : List RowV} {Ar : Option Addr} {ps : List PairV} {V : List Nat} {w : World} {j : Nat} {F : Nat → Prop} {Al : Option Addr} {cl : Nat} {wr wa w4 wl w7 : World}
theorem own4 (H : SpL N g s b vb k M W As rss Ar ps V w j F Al cl wr) (ka : Keep wr wa) (t4 : Turned F wa w4) : OwnRows w4 N 31 Al j cl ((ps.map PairV.a).take j) := (H.own.keep ka).turned t4 H.apart
theorem step (H : SpL N g s b vb k M W As rss Ar ps V w j F Al cl wr) (ka : Keep wr wa) {p : PairV} (hp : ps[j]? = some p) {F4 : Nat → Prop} (r4 : BasR w4 F4 b g s (basK g s W (j + 1))) (f4 : ∀ x, F4 x → F x ∨ wa.heap.size ≤ x) (t4 : Turned F wa w4) (kl : Keep w4 wl) {A7 : Option Addr} {c7 : Nat}
    (h7 : OwnRows w7 N 31 A7 (j + 1) c7 ((ps.map PairV.a).take j ++ [p.a])) (hgr : wl.grownBy w7 (Value.slice Al j cl).ownBlock) (hb : (Value.slice A7 (j + 1) c7).ownBlock = (Value.slice Al j cl).ownBlock ∨ (Value.slice A7 (j + 1) c7).ownBlock = some wl.heap.size) :
    SpL N g s b vb k M W As rss Ar ps V w (j + 1) F4 A7 c7 w7 := by
  have kT : Turned (fun x => (Value.slice Al j cl).ownBlock = some x) w4 w7 := (Turned.of_keep kl).trans (Turned.of_grown (F := fun x => (Value.slice Al j cl).ownBlock = some x) hgr fun i e => e) fun i e => Or.inl e
  have old : ∀ x, (Value.slice Al j cl).ownBlock = some x → ¬ F4 x := fun x e hx => by
    rcases f4 x hx with h | h
    · exact H.apart x e h
    · have := (H.own.lt x e).2; have := ka.size; omega
  have hvl := (H.vec.1.lt vb rfl).2
  have hs4 := t4.size
  have hsa := ka.size
  have hsl := kl.size
  refine ⟨r4.turned kT fun x hx e => old x e hx, fun x hx => ?_, ((H.set.keep ka).turned t4 H.fN).turned kT fun x e => (H.own.lt x e).1, ?_, fun x e => ?_, ((H.vec.keep ka).turned t4 fun x e hx => ?_).turned kT fun x e he => ?_, fun hx => ?_, fun x e => ?_, H.hN, kT.keep (t4.keep (H.keep.trans ka) fun x hx => Nat.le_trans H.hN (H.fN x hx)) fun x e => Nat.le_trans H.hN (H.own.lt x e).1⟩
  · rcases f4 x hx with h | h
    · exact H.fN x h
    · have := H.set.le; omega
  · rw [List.take_add_one, List.getElem?_map, hp]; exact h7
  · rcases hb with h | h
    · rw [h] at e; exact old x e
    · rw [h] at e
      injection e with e
      intro hx
      have := r4.fine.2.2.2.2.2 x hx
      omega
  · have : vb = x := by injection e
    subst this; exact H.vF hx
  · have : vb = x := by injection e
    subst this; exact H.vl vb he rfl
  · rcases f4 vb hx with h | h
    · exact H.vF h
    · omega
  · rcases hb with h | h
    · rw [h] at e; exact H.vl x e
    · rw [h] at e
      injection e with e
      omega
end SpL
/-- What the matrix of the coefficients is to the basis. -/
structure SpC (g s n : Nat) (B C : List (List Nat)) : Prop where
  sz : Sz n g C
  red : B.map (List.take g) = reduceN C
  len : (reduceN C).length = B.length
  inn : ∀ v, v.length = g → AllB v → (inB g s B (v ++ List.replicate s 0) ↔ (reduceN (C ++ [v])).length = B.length)
theorem rowsXs_cut {g s : Nat} {M : List (List Nat)} {rss : List RowV} {ps : List PairV} (h : Known g s M rss ps) (j : Nat) : rowsXs ((ps.map PairV.a).take j) = ((ps.map PairV.xs).take j).map (List.take g) := by
  rw [rowsXs, ← List.map_take, ← List.map_take, List.map_map, List.map_map]
  refine List.map_congr_left fun p hp => ?_
  show p.a.xs = (p.a.xs ++ p.b.xs).take g
  rw [List.take_left' (h.rows p (List.mem_of_mem_take hp)).2.2.1]
theorem spc_of {g s : Nat} {M W : List (List Nat)} (hW : SymRows g s M W) {j : Nat} (hj : j ≤ W.length) (h0 : 0 < j) : SpC g s j (basK g s W j) ((W.take j).map (List.take g)) := by
  obtain ⟨hB, _, hS, _⟩ := basK_sym hW j hj
  have hrows : ∀ r ∈ W.take j, r.length = g + s ∧ AllB r := fun r hr => by
    have := hW r (List.mem_of_mem_take hr)
    exact ⟨this.1, this.2.1⟩
  have hl : (W.take j).length = j := by rw [List.length_take]; omega
  have hr := cut_reduced hB hrows hS (by omega)
  have hlen : (reduceN ((W.take j).map (List.take g))).length = (basK g s W j).length := by rw [← hr, List.length_map]
  refine ⟨⟨by rw [List.length_map, hl], fun x hx => ?_⟩, hr, hlen, fun v hv ha => ?_⟩
  · obtain ⟨y, hy, rfl⟩ := List.mem_map.1 hx
    have := hrows y hy
    exact ⟨by rw [List.length_take, this.1]; omega, this.2.take g⟩
  · rw [in_rank hB hrows hS (by omega) hv ha, rk, rk, hlen]
end Go.Proofs.Yticllkklbogcnaa
