/- What layer 7's statements lay, kept apart from the bases. -/
import Derived.Test.YticllkklbogcnaaBlaid
import Derived.Test.YticllkklbogcnaaBas
import Derived.Test.YticllkklbogcnaaBawake
import Derived.Test.YticllkklbogcnaaEqual
namespace Go.Proofs.Yticllkklbogcnaa
open Go.RowKit
set_option linter.unusedVariables false
/-- Symbols and rows, below block N. -/
structure Setup (N : Nat) (w : World) (g s : Nat) (M : List (List Nat)) (As : Option Addr) (rss : List RowV) (Ar : Option Addr) (k : Nat) (ps : List PairV) : Prop where
  sy : RowsIn w (· < N) As g rss
  rows : StIn w (· < N) Ar k ps
  le : N ≤ w.heap.size
namespace Setup
variable {N g s k : Nat} {w w' : World} {M : List (List Nat)} {As Ar : Option Addr} {rss : List RowV} {ps : List PairV} {G : Nat → Prop}
theorem turned (h : Setup N w g s M As rss Ar k ps) (t : Turned G w w') (hG : ∀ b, G b → N ≤ b) : Setup N w' g s M As rss Ar k ps :=
  ⟨h.sy.turned t fun b hb e => by have := hG b e; have hb : b < N := hb; omega, h.rows.turned t fun b hb e => by have := hG b e; have hb : b < N := hb; omega, Nat.le_trans h.le t.size⟩
theorem keep (h : Setup N w g s M As rss Ar k ps) (t : Keep w w') : Setup N w' g s M As rss Ar k ps := h.turned (Turned.of_keep (F := fun _ => False) t) fun _ e => e.elim
theorem raise (h : Setup N w g s M As rss Ar k ps) {N' : Nat} (h1 : N ≤ N') (h2 : N' ≤ w.heap.size) : Setup N' w g s M As rss Ar k ps :=
  ⟨h.sy.mono fun b hb => Nat.lt_of_lt_of_le hb h1, h.rows.mono fun b hb => Nat.lt_of_lt_of_le hb h1, h2⟩
end Setup
/-- What is known of them. -/
structure Known (g s : Nat) (M : List (List Nat)) (rss : List RowV) (ps : List PairV) : Prop where
  g1 : 1 ≤ g
  g2 : g ≤ 10
  s1 : 1 ≤ s
  s2 : s ≤ 10
  sz : Sz g s M
  sy : rowsXs rss = M
  sn : ∀ r ∈ rss, r.n = s
  len : ps.length ≤ 40
  rows : ∀ p ∈ ps, p.a.n = g ∧ p.b.n = s ∧ p.a.xs.length = g ∧ AllB p.a.xs ∧ p.b.xs = payV g s M p.a.xs
theorem Known.xs {g s : Nat} {M : List (List Nat)} {rss : List RowV} {ps : List PairV} (h : Known g s M rss ps) {p : PairV} (hp : p ∈ ps) : p.xs = rowV g s M p.a.xs := by
  rw [PairV.xs, (h.rows p hp).2.2.2.2]; rfl
theorem Known.sym {g s : Nat} {M : List (List Nat)} {rss : List RowV} {ps : List PairV} (h : Known g s M rss ps) : SymRows g s M (ps.map PairV.xs) := fun r hr => by
  obtain ⟨p, hp, rfl⟩ := List.mem_map.1 hr
  have hk := h.rows p hp
  rw [h.xs hp]
  have ok := rowV_ok h.sz hk.2.2.1 hk.2.2.2.1
  exact ⟨ok.1, ok.2, _, vec_rowV h.sz hk.2.2.1 hk.2.2.2.1⟩
theorem Known.at_ {g s : Nat} {M : List (List Nat)} {rss : List RowV} {ps : List PairV} {j : Nat} {p : PairV} (hj : ps[j]? = some p) : (ps.map PairV.xs).getD j [] = p.xs := by
  rw [List.getD_eq_getElem?_getD, List.getElem?_map, hj]; rfl
theorem known_of {g s G S : Nat} (hg : 1 + G % 10 = g) (hs : 1 + S % 10 = s) {rs1 rs2 : List RowV} {M : List (List Nat)} {rss : List RowV} {ps : List PairV} (h1 : ∀ x ∈ rowsOf rs1, AllB x) (h2 : ∀ x ∈ rowsOf rs2, AllB x) (hM : symM (rowsOf rs1) s g = M) (hsy : rowsXs rss = M) (hsn : ∀ r ∈ rss, r.xs.length = r.n)
    (hps : (ps.map fun p => (p.a.xs, p.b.xs)) = rowsM g s M (rowsOf rs2) 40) (hn : ∀ p ∈ ps, p.a.n = g ∧ p.b.n = s) : Known g s M rss ps := by
  have hsz : Sz g s M := by rw [← hM]; exact symM_sz _ s g h1
  refine ⟨by omega, by omega, by omega, by omega, hsz, hsy, fun r hr => ?_, ?_, fun p hp => ⟨(hn p hp).1, (hn p hp).2, ?_⟩⟩
  · rw [← hsn r hr]
    exact (hsz.2 r.xs (by rw [← hsy]; exact List.mem_map.2 ⟨r, hr, rfl⟩)).1
  · have := congrArg List.length hps
    rw [List.length_map, rowsM, List.length_map, List.length_take] at this
    omega
  · have hm : (p.a.xs, p.b.xs) ∈ rowsM g s M (rowsOf rs2) 40 := by rw [← hps]; exact List.mem_map.2 ⟨p, hp, rfl⟩
    obtain ⟨c, hc, e⟩ := List.mem_map.1 hm
    have hca : AllB c := h2 c (List.mem_of_mem_take hc)
    injection e with e1 e2
    rw [← e1, ← e2]
    exact ⟨fillN_len _ _, fillN_all hca _, rfl⟩
end Go.Proofs.Yticllkklbogcnaa
