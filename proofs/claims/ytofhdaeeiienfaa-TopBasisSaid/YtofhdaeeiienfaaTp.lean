/- TopBasis, plainly: which rows were new; the square matrix of them; what its inverse makes of their payloads. -/
import Derived.Test.YtofhdaeeiienfaaBs
import Derived.Test.YtofhdaeeiienfaaSpl
import Derived.Test.YtofhdaeeiienfaaTw
import Derived.Test.YtofhdaeeiienfaaSlaw
namespace Go.Proofs.Ytofhdaeeiienfaa
open Lin
set_option linter.unusedVariables false
/-- The places of those rows that were new. -/
def selK (g s : Nat) (W : List (List Nat)) : Nat → List Nat
  | 0 => []
  | j + 1 => selK g s W j ++ (if inB g s (basK g s W j) (W.getD j []) then [] else [j])
def pickN (L : List (List Nat)) (I : List Nat) : List (List Nat) := I.map fun i => L.getD i []
section
variable {g s : Nat} {M W : List (List Nat)}
theorem selK_succ (j : Nat) : selK g s W (j + 1) = selK g s W j ++ (if inB g s (basK g s W j) (W.getD j []) then [] else [j]) := rfl
theorem selK_len : ∀ j, j ≤ W.length → (selK g s W j).length = (basK g s W j).length
  | 0, _ => rfl
  | j + 1, h => by
    rw [selK_succ, List.length_append, selK_len j (by omega), basK_succ (by omega), insB_len]
    split <;> rfl
theorem selK_lt : ∀ j i, i ∈ selK g s W j → i < j
  | 0, i, h => by simp [selK] at h
  | j + 1, i, h => by
    rw [selK_succ, List.mem_append] at h
    rcases h with h | h
    · have := selK_lt j i h; omega
    · split at h
      · simp at h
      · simp at h; omega
theorem selK_more (i : Nat) : ∀ d, ∃ t, selK g s W (i + d) = selK g s W i ++ t
  | 0 => ⟨[], by simp⟩
  | d + 1 => by
    obtain ⟨t, e⟩ := selK_more i d
    exact ⟨_, by rw [← Nat.add_assoc, selK_succ, e, List.append_assoc]⟩
theorem selK_full {i k n : Nat} (h : i ≤ k) (h1 : (selK g s W i).length = n) (h2 : (selK g s W k).length = n) : selK g s W i = selK g s W k := by
  obtain ⟨t, e⟩ := selK_more (g := g) (s := s) (W := W) i (k - i)
  rw [show i + (k - i) = k by omega] at e
  have := congrArg List.length e
  rw [List.length_append] at this
  have ht : t = [] := List.eq_nil_of_length_eq_zero (by omega)
  rw [e, ht, List.append_nil]
theorem rk_nil : rk [] = 0 := by
  show (reduceN []).length = 0
  rw [reduceN, if_pos (by intro x hx; simp at hx)]; rfl
/-- The coefficients of the first j rows. -/
theorem cut_take (j : Nat) : (W.take j).map (List.take g) = (W.map (List.take g)).take j := by rw [List.map_take]
theorem cut_sz (hW : SymRows g s M W) (j : Nat) (hj : j ≤ W.length) : Sz j g ((W.map (List.take g)).take j) := by
  rw [← cut_take]
  exact ⟨by rw [List.length_map, List.length_take]; omega, fun x hx => by
    obtain ⟨y, hy, rfl⟩ := List.mem_map.1 hx
    have := hW y (List.mem_of_mem_take hy)
    exact ⟨by rw [List.length_take, this.1]; omega, this.2.1.take g⟩⟩
theorem cut_rk (hW : SymRows g s M W) (j : Nat) (hj : j ≤ W.length) : rk ((W.map (List.take g)).take j) = (basK g s W j).length := by
  rcases Nat.eq_zero_or_pos j with rfl | h0
  · rw [List.take_zero]; exact rk_nil
  · have := (spc_of hW hj h0).len
    rwa [cut_take] at this
theorem cut_red (hW : SymRows g s M W) (j : Nat) (hj : j ≤ W.length) : (basK g s W j).map (List.take g) = reduceN ((W.map (List.take g)).take j) := by
  rcases Nat.eq_zero_or_pos j with rfl | h0
  · rw [List.take_zero]
    exact (List.eq_nil_of_length_eq_zero rk_nil).symm
  · have := (spc_of hW hj h0).red
    rwa [cut_take] at this
theorem cut_getD (j : Nat) (hj : j < W.length) : (W.map (List.take g)).take (j + 1) = (W.map (List.take g)).take j ++ [(W.getD j []).take g] := by
  rw [List.take_add_one, List.getElem?_map, List.getElem?_eq_getElem hj, List.getD_eq_getElem?_getD, List.getElem?_eq_getElem hj]; rfl
/-- A row is new just if it does not lie in the span so far. -/
theorem cut_has (hW : SymRows g s M W) (j : Nat) (hj : j < W.length) : conB ((W.map (List.take g)).take j) [(W.getD j []).take g] = decide (inB g s (basK g s W j) (W.getD j [])) := by
  rw [conB, ← cut_getD j hj, cut_rk hW (j + 1) hj, cut_rk hW j (by omega), basK_succ hj, insB_len]
  refine decide_eq_decide.2 ?_
  by_cases h : inB g s (basK g s W j) (W.getD j [])
  · rw [if_pos h]; exact ⟨fun _ => h, fun _ => rfl⟩
  · rw [if_neg h]; exact ⟨fun e => absurd e (by omega), fun e => absurd e h⟩
/-- .. and so for any coefficients. -/
theorem cut_ask (hW : SymRows g s M W) (j : Nat) (hj : j ≤ W.length) {v : List Nat} (hv : v.length = g) (ha : AllB v) : conB ((W.map (List.take g)).take j) [v] = decide (inB g s (basK g s W j) (v ++ List.replicate s 0)) := by
  rcases Nat.eq_zero_or_pos j with rfl | h0
  · rw [List.take_zero, Bool.eq_iff_iff, con_one (n := g) (fun r hr => by simp at hr) (fun r hr => by rw [List.mem_singleton.1 hr]; exact ⟨hv, ha⟩), decide_eq_true_iff]
    refine Iff.trans ?_ (none_in hv).symm
    constructor
    · rintro ⟨c, hc⟩
      exact vLead_neg fun i hi => (vec_zero_iff ha i).1 (by rw [hc]; rfl)
    · intro h
      refine ⟨fun _ => 0, funext fun i => ?_⟩
      have : vec v i = 0 := by
        by_cases hi : i < g
        · exact (vec_zero_iff ha i).2 (vLead_none h i hi)
        · exact vec_wide hv i (by omega)
      rw [this]; rfl
  · have hc := spc_of hW hj h0
    have h1 := hc.inn v hv ha
    have h2 := hc.len
    rw [cut_take] at h1 h2
    rw [conB]
    refine decide_eq_decide.2 (Iff.trans ?_ h1.symm)
    rw [rk, rk, h2]
/-- Those that were new make what all make. -/
theorem sel_span (hW : SymRows g s M W) : ∀ j, j ≤ W.length → SameSpan (pickN (W.map (List.take g)) (selK g s W j)) ((W.map (List.take g)).take j)
  | 0, _ => by rw [List.take_zero]; exact SameSpan.refl []
  | j + 1, h => by
    have ih := sel_span hW j (by omega)
    have hj : j < W.length := by omega
    have hat : (W.map (List.take g)).getD j [] = (W.getD j []).take g := by
      rw [List.getD_eq_getElem?_getD, List.getElem?_map, List.getElem?_eq_getElem hj, List.getD_eq_getElem?_getD, List.getElem?_eq_getElem hj]; rfl
    have hz := cut_sz hW j (by omega)
    have hz1 := cut_sz hW (j + 1) h
    have hh := cut_has hW j hj
    rw [cut_getD j hj] at hz1 ⊢
    rw [selK_succ]
    by_cases hin : inB g s (basK g s W j) (W.getD j [])
    · rw [if_pos hin, List.append_nil]
      rw [decide_eq_true hin, con_one hz.2 (fun r hr => hz1.2 r (List.mem_append.2 (Or.inr hr)))] at hh
      refine ih.trans (SameSpan.symm ⟨within_append (Within.refl laws _ _) fun i hi => ?_, within_left⟩)
      have hi0 : i = 0 := by simp at hi; exact hi
      subst hi0
      exact hh
    · rw [if_neg hin, pickN, List.map_append]
      show SameSpan (pickN (W.map (List.take g)) (selK g s W j) ++ [(W.map (List.take g)).getD j []]) _
      rw [hat]
      exact same_append ih (SameSpan.refl _)
/-- At full rank: the square matrix of the new rows, and what its inverse makes of their payloads. -/
theorem sel_square (hW : SymRows g s M W) (hM : Sz g s M) (k : Nat) (hk : k ≤ W.length) (hg : (basK g s W k).length = g) (g1 : 1 ≤ g) :
    Sz g g (pickN (W.map (List.take g)) (selK g s W k)) ∧ rk (pickN (W.map (List.take g)) (selK g s W k)) = g ∧ Sz g s ((pickN (W.map (List.take g)) (selK g s W k)).map (payV g s M)) ∧
      Sz g g (invV (pickN (W.map (List.take g)) (selK g s W k))) ∧ prodN (invV (pickN (W.map (List.take g)) (selK g s W k))) ((pickN (W.map (List.take g)) (selK g s W k)).map (payV g s M)) g s g = M := by
  have hz := cut_sz hW k hk
  have hl : (selK g s W k).length = g := by rw [selK_len k hk, hg]
  have hsq : Sz g g (pickN (W.map (List.take g)) (selK g s W k)) := ⟨by rw [pickN, List.length_map, hl], fun x hx => by
    obtain ⟨i, hi, rfl⟩ := List.mem_map.1 hx
    have h1 := selK_lt k i hi
    refine hz.2 _ ?_
    have e : (W.map (List.take g))[i]? = some ((W.map (List.take g)).getD i []) := by
      rw [List.getD_eq_getElem?_getD, List.getElem?_eq_getElem (by rw [List.length_map]; omega)]; rfl
    exact List.mem_of_getElem? (i := i) (by rw [List.getElem?_take, if_pos h1]; exact e)⟩
  have hrk : rk (pickN (W.map (List.take g)) (selK g s W k)) = g := by
    rw [rk, reduce_same hsq hz (sel_span hW k hk)]
    exact (cut_rk hW k hk).trans hg
  generalize pickN (W.map (List.take g)) (selK g s W k) = Q at *
  have hP : Q.map (payV g s M) = prodN Q M g s g := by
    rw [prodN, List.take_of_length_le (by rw [hsq.1]; exact Nat.le_refl _)]
    exact List.map_congr_left fun x hx => payV_eq hM (hsq.2 x hx).2
  obtain ⟨i1, i2⟩ := inv_left hsq g1 hrk
  refine ⟨hsq, hrk, by rw [hP]; exact prod_sz hsq s M, i1, ?_⟩
  rw [hP, ← prod_assoc i1 hsq hM, i2, id_prod hM]
end
end Go.Proofs.Ytofhdaeeiienfaa
/- TopBasis: a basis, the coefficients and the payloads of those that were new, side by side. -/
namespace Go.Proofs.Ytofhdaeeiienfaa
open Lin Go.RowKit
set_option linter.unusedVariables false
/-- The payloads' rows. -/
def selP (ps : List PairV) (I : List Nat) : List RowV := I.map fun i => (ps.getD i PairV.zero).b
def selA (ps : List PairV) (I : List Nat) : List RowV := I.map fun i => (ps.getD i PairV.zero).a
/-- Behind jb rows put in and jc coefficients and the payloads at I. -/
structure TpL (N g s b k : Nat) (M W : List (List Nat)) (As : Option Addr) (rss : List RowV) (Ar : Option Addr) (ps : List PairV) (w : World) (jb jc : Nat) (I : List Nat) (F : Nat → Prop) (Al : Option Addr) (cl : Nat) (Ap : Option Addr) (cp : Nat) (wr : World) : Prop where
  bas : BasR wr F b g s (basK g s W jb)
  fN : ∀ x, F x → N ≤ x
  set : Setup N wr g s M As rss Ar k ps
  own : OwnRows wr N 23 Al jc cl ((ps.map PairV.a).take jc)
  apart : ∀ x, (Value.slice Al jc cl).ownBlock = some x → ¬ F x
  ownP : OwnRows wr N 23 Ap I.length cp (selP ps I)
  apartP : ∀ x, (Value.slice Ap I.length cp).ownBlock = some x → ¬ F x
  both : ∀ x, (Value.slice Al jc cl).ownBlock = some x → ¬ (Value.slice Ap I.length cp).ownBlock = some x
  hN : w.heap.size ≤ N
  keep : Keep w wr
namespace TpL
variable {N g s b k : Nat} {M W : List (List Nat)} {As : Option Addr} {rss : List RowV} {Ar : Option Addr} {ps : List PairV} {w : World} {jb jc : Nat} {I : List Nat} {F : Nat → Prop} {Al : Option Addr} {cl : Nat} {Ap : Option Addr} {cp : Nat} {wr wl w4 w7 : World}
theorem later (H : TpL N g s b k M W As rss Ar ps w jb jc I F Al cl Ap cp wr) (ka : Keep wr wl) : TpL N g s b k M W As rss Ar ps w jb jc I F Al cl Ap cp wl :=
  ⟨H.bas.keep ka, H.fN, H.set.keep ka, H.own.keep ka, H.apart, H.ownP.keep ka, H.apartP, H.both, H.hN, H.keep.trans ka⟩
theorem put (H : TpL N g s b k M W As rss Ar ps w jb jc I F Al cl Ap cp wr) {F4 : Nat → Prop} (r4 : BasR w4 F4 b g s (basK g s W (jb + 1))) (f4 : ∀ x, F4 x → F x ∨ wr.heap.size ≤ x) (t4 : Turned F wr w4) : TpL N g s b k M W As rss Ar ps w (jb + 1) jc I F4 Al cl Ap cp w4 :=
  ⟨r4, fun x hx => by
    rcases f4 x hx with h | h
    · exact H.fN x h
    · have := H.set.le; omega, H.set.turned t4 H.fN, H.own.turned t4 H.apart, fun x e hx => by
    rcases f4 x hx with h | h
    · exact H.apart x e h
    · have := (H.own.lt x e).2; omega, H.ownP.turned t4 H.apartP, fun x e hx => by
    rcases f4 x hx with h | h
    · exact H.apartP x e h
    · have := (H.ownP.lt x e).2; omega, H.both, H.hN, t4.keep H.keep fun x hx => Nat.le_trans H.hN (H.fN x hx)⟩
theorem addC (H : TpL N g s b k M W As rss Ar ps w jb jc I F Al cl Ap cp wr) {p : PairV} (hp : ps[jc]? = some p) {A7 : Option Addr} {c7 : Nat}
    (h7 : OwnRows w7 N 23 A7 (jc + 1) c7 ((ps.map PairV.a).take jc ++ [p.a])) (kl : Keep wr wl) (hgr : wl.grownBy w7 (Value.slice Al jc cl).ownBlock) (hb : (Value.slice A7 (jc + 1) c7).ownBlock = (Value.slice Al jc cl).ownBlock ∨ (Value.slice A7 (jc + 1) c7).ownBlock = some wl.heap.size) :
    TpL N g s b k M W As rss Ar ps w jb (jc + 1) I F A7 c7 Ap cp w7 := by
  have kT : Turned (fun x => (Value.slice Al jc cl).ownBlock = some x) wr w7 := (Turned.of_keep kl).trans (Turned.of_grown (F := fun x => (Value.slice Al jc cl).ownBlock = some x) hgr fun i e => e) fun i e => Or.inl e
  have hsl := kl.size
  refine ⟨H.bas.turned kT fun x hx e => H.apart x e hx, H.fN, H.set.turned kT fun x e => (H.own.lt x e).1, ?_, fun x e hx => ?_, H.ownP.turned kT fun x e he => H.both x he e, H.apartP, fun x e he => ?_, H.hN, kT.keep H.keep fun x e => Nat.le_trans H.hN (H.own.lt x e).1⟩
  · rw [List.take_add_one, List.getElem?_map, hp]; exact h7
  · rcases hb with h | h
    · rw [h] at e; exact H.apart x e hx
    · rw [h] at e
      injection e with e
      have := H.bas.fine.2.2.2.2.2 x hx
      omega
  · rcases hb with h | h
    · rw [h] at e; exact H.both x e he
    · rw [h] at e
      injection e with e
      have := (H.ownP.lt x he).2
      omega
theorem addP (H : TpL N g s b k M W As rss Ar ps w jb jc I F Al cl Ap cp wr) {p : PairV} {i : Nat} (hp : ps[i]? = some p) {A7 : Option Addr} {c7 : Nat}
    (h7 : OwnRows w7 N 23 A7 (I.length + 1) c7 (selP ps I ++ [p.b])) (kl : Keep wr wl) (hgr : wl.grownBy w7 (Value.slice Ap I.length cp).ownBlock) (hb : (Value.slice A7 (I.length + 1) c7).ownBlock = (Value.slice Ap I.length cp).ownBlock ∨ (Value.slice A7 (I.length + 1) c7).ownBlock = some wl.heap.size) :
    TpL N g s b k M W As rss Ar ps w jb jc (I ++ [i]) F Al cl A7 c7 w7 := by
  have kT : Turned (fun x => (Value.slice Ap I.length cp).ownBlock = some x) wr w7 := (Turned.of_keep kl).trans (Turned.of_grown (F := fun x => (Value.slice Ap I.length cp).ownBlock = some x) hgr fun i e => e) fun i e => Or.inl e
  have hsl := kl.size
  have hlen : (I ++ [i]).length = I.length + 1 := by rw [List.length_append]; rfl
  refine ⟨H.bas.turned kT fun x hx e => H.apartP x e hx, H.fN, H.set.turned kT fun x e => (H.ownP.lt x e).1, H.own.turned kT fun x e he => H.both x e he, H.apart, ?_, fun x e hx => ?_, fun x e he => ?_, H.hN, kT.keep H.keep fun x e => Nat.le_trans H.hN (H.ownP.lt x e).1⟩
  · rw [hlen, selP, List.map_append]
    show OwnRows _ _ _ _ _ _ (selP ps I ++ [(ps.getD i PairV.zero).b])
    rw [List.getD_eq_getElem?_getD, hp]
    exact h7
  · rw [hlen] at e
    rcases hb with h | h
    · rw [h] at e; exact H.apartP x e hx
    · rw [h] at e
      injection e with e
      have := H.bas.fine.2.2.2.2.2 x hx
      omega
  · rw [hlen] at he
    rcases hb with h | h
    · rw [h] at he; exact H.both x e he
    · rw [h] at he
      injection he with he
      have := (H.own.lt x e).2
      omega
/-- The coefficients and the payloads, as matrices. -/
theorem coefs (H : TpL N g s b k M W As rss Ar ps w jb jc I F Al cl Ap cp wr) : Mat wr ⟨Al, jc, cl, (rowsXs ((ps.map PairV.a).take jc))⟩ :=
  ⟨_, RowsIn.of_own H.own (fun r hr => by
    obtain ⟨p, hp, rfl⟩ := List.mem_map.1 (List.mem_of_mem_take hr)
    exact (H.set.rows.2.1 p hp).1.mono fun b hb => Nat.lt_of_lt_of_le hb H.set.le) (fun b hb => (H.own.lt b hb).2), rfl, ownrows_le H.own⟩
theorem pays (H : TpL N g s b k M W As rss Ar ps w jb jc I F Al cl Ap cp wr) (hI : ∀ i ∈ I, i < ps.length) : Mat wr ⟨Ap, I.length, cp, (rowsXs (selP ps I))⟩ :=
  ⟨_, RowsIn.of_own H.ownP (fun r hr => by
    obtain ⟨i, hi, rfl⟩ := List.mem_map.1 hr
    have : ps.getD i PairV.zero ∈ ps := by rw [List.getD_eq_getElem?_getD, List.getElem?_eq_getElem (hI i hi)]; exact List.getElem_mem _
    exact (H.set.rows.2.1 _ this).2.mono fun b hb => Nat.lt_of_lt_of_le hb H.set.le) (fun b hb => (H.ownP.lt b hb).2), rfl, ownrows_le H.ownP⟩
theorem symbols (H : TpL N g s b k M W As rss Ar ps w jb jc I F Al cl Ap cp wr) {cs : Nat} (hc : g ≤ cs) : Mat wr ⟨As, g, cs, rowsXs rss⟩ := ⟨rss, H.set.sy.mono fun b hb => Nat.lt_of_lt_of_le hb H.set.le, rfl, hc⟩
end TpL
/-- What the rows' lists hold. -/
theorem coefs_xs {g s : Nat} {M : List (List Nat)} {rss : List RowV} {ps : List PairV} (h : Known g s M rss ps) (j : Nat) : rowsXs ((ps.map PairV.a).take j) = ((ps.map PairV.xs).map (List.take g)).take j := by rw [rowsXs_cut h j, cut_take]
theorem pays_xs {g s : Nat} {M : List (List Nat)} {rss : List RowV} {ps : List PairV} (h : Known g s M rss ps) {I : List Nat} (hI : ∀ i ∈ I, i < ps.length) : rowsXs (selP ps I) = (pickN ((ps.map PairV.xs).map (List.take g)) I).map (payV g s M) := by
  rw [rowsXs, selP, pickN, List.map_map, List.map_map]
  refine List.map_congr_left fun i hi => ?_
  have hp := List.getElem?_eq_getElem (hI i hi)
  have hk := h.rows _ (List.getElem_mem (hI i hi))
  show (ps.getD i PairV.zero).b.xs = payV g s M ((List.map (List.take g) (ps.map PairV.xs)).getD i [])
  rw [List.getD_eq_getElem?_getD, List.getD_eq_getElem?_getD, List.getElem?_map, List.getElem?_map, hp]
  show (ps[i]'(hI i hi)).b.xs = payV g s M (((ps[i]'(hI i hi)).a.xs ++ (ps[i]'(hI i hi)).b.xs).take g)
  rw [hk.2.2.2.2, List.take_left' hk.2.2.1]
theorem picks_xs {g s : Nat} {M : List (List Nat)} {rss : List RowV} {ps : List PairV} (h : Known g s M rss ps) {I : List Nat} (hI : ∀ i ∈ I, i < ps.length) : rowsXs (selA ps I) = pickN ((ps.map PairV.xs).map (List.take g)) I := by
  rw [rowsXs, selA, pickN, List.map_map]
  refine List.map_congr_left fun i hi => ?_
  have hp := List.getElem?_eq_getElem (hI i hi)
  have hk := h.rows _ (List.getElem_mem (hI i hi))
  show (ps.getD i PairV.zero).a.xs = (List.map (List.take g) (ps.map PairV.xs)).getD i []
  rw [List.getD_eq_getElem?_getD, List.getD_eq_getElem?_getD, List.getElem?_map, List.getElem?_map, hp]
  show (ps[i]'(hI i hi)).a.xs = ((ps[i]'(hI i hi)).a.xs ++ (ps[i]'(hI i hi)).b.xs).take g
  rw [List.take_left' hk.2.2.1]
/-- What is known of the rows that TopBasis lays. -/
theorem known_top {g s : Nat} {M : List (List Nat)} {rss : List RowV} {ps : List PairV} {C : List (List Nat)} (hC : ∀ x ∈ C, AllB x) (g1 : 1 ≤ g) (g2 : g ≤ 6) (s1 : 1 ≤ s) (s2 : s ≤ 6) (hsz : Sz g s M) (hsy : rowsXs rss = M) (hsn : ∀ r ∈ rss, r.n = s)
    (hps : (ps.map fun p => (p.a.xs, p.b.xs)) = rowsM g s M C 16) (hn : ∀ p ∈ ps, p.a.n = g ∧ p.b.n = s) : Known g s M rss ps ∧ ps.length ≤ 16 := by
  have hl : ps.length ≤ 16 := by
    have := congrArg List.length hps
    rw [List.length_map, rowsM, List.length_map, List.length_take] at this
    omega
  refine ⟨⟨g1, by omega, s1, by omega, hsz, hsy, hsn, by omega, fun p hp => ⟨(hn p hp).1, (hn p hp).2, ?_⟩⟩, hl⟩
  have hm : (p.a.xs, p.b.xs) ∈ rowsM g s M C 16 := by rw [← hps]; exact List.mem_map.2 ⟨p, hp, rfl⟩
  obtain ⟨c, hc, e⟩ := List.mem_map.1 hm
  have hca : AllB c := hC c (List.mem_of_mem_take hc)
  injection e with e1 e2
  rw [← e1, ← e2]
  exact ⟨fillN_len _ _, fillN_all hca _, rfl⟩
end Go.Proofs.Ytofhdaeeiienfaa
