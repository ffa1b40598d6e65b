/- Slices of rows (coefficients and payload): read, and laid in new memory. -/
import Derived.Test.YtgelalbmhllccaaGreatQaa
import Derived.Maps.AppendAt
import Derived.Laws.IdiomArrays
import Derived.Deep.Grids
import Derived.OneCell
import GoSem.Claim
import Derived.Laws.BitsAllLaws
import Derived.Test.YtgelalbmhllccaaGreatProg
import Derived.WalkKit
import Derived.Lib.Hide
namespace Go.Proofs.YtgelalbmhllccaaGreat
open Go.RowKit
/-- A row: coefficients, payload. -/
structure PairV where
  a : RowV
  b : RowV
def PairV.vals (p : PairV) : List Value := [p.a.val, p.b.val]
/-- Both, side by side. -/
def PairV.xs (p : PairV) : List Nat := p.a.xs ++ p.b.xs
/-- Such a row as a value. -/
def PairV.agg (p : PairV) : Value := .agg #[.slice p.a.A p.a.n p.a.c, .slice p.b.A p.b.n p.b.c]
/-- A slice of rows in blocks of F, its own block among them. -/
def StIn (w : World) (F : Nat → Prop) (A : Option Addr) (n : Nat) (ps : List PairV) : Prop :=
  ps.length = n ∧ (∀ p ∈ ps, LiesIn w F p.a ∧ LiesIn w F p.b) ∧ (0 < n → ∃ b off, A = some ⟨b, off, none⟩ ∧ F b ∧ ∀ i p, ps[i]? = some p → w.cell? ⟨b, off + i * 2, none⟩ = some p.a.val ∧ w.cell? ⟨b, off + i * 2 + 1, none⟩ = some p.b.val)
namespace StIn
variable {F F' G : Nat → Prop} {w w' : World} {A : Option Addr} {n : Nat} {ps : List PairV}
theorem turned (h : StIn w F A n ps) (k : Turned G w w') (hd : ∀ b, F b → ¬ G b) : StIn w' F A n ps := ⟨h.1, fun p hp => ⟨(h.2.1 p hp).1.turned k hd, (h.2.1 p hp).2.turned k hd⟩, fun hp => by
  obtain ⟨b, off, e, hb, hc⟩ := h.2.2 hp
  exact ⟨b, off, e, hb, fun i p hi => ⟨k.cell (hc i p hi).1 (hd b hb), k.cell (hc i p hi).2 (hd b hb)⟩⟩⟩
theorem keep (h : StIn w F A n ps) (k : Keep w w') : StIn w' F A n ps := h.turned (Turned.of_keep (F := fun _ => False) k) fun _ _ e => e
theorem mono (h : StIn w F A n ps) (hF : ∀ b, F b → F' b) : StIn w F' A n ps := ⟨h.1, fun p hp => ⟨(h.2.1 p hp).1.mono hF, (h.2.1 p hp).2.mono hF⟩, fun hp => by
  obtain ⟨b, off, e, hb, hc⟩ := h.2.2 hp
  exact ⟨b, off, e, hF b hb, hc⟩⟩
theorem nothing (w : World) (F : Nat → Prop) (A : Option Addr) : StIn w F A 0 [] := ⟨rfl, fun _ h => by simp at h, fun h => absurd h (by omega)⟩
theorem at_ (h : StIn w F A n ps) {k : Nat} (hk : k < n) : ∃ b off p, A = some ⟨b, off, none⟩ ∧ F b ∧ ps[k]? = some p ∧ w.cell? ⟨b, off + k * 2, none⟩ = some (.slice p.a.A p.a.n p.a.c) ∧ w.cell? ⟨b, off + k * 2 + 1, none⟩ = some (.slice p.b.A p.b.n p.b.c) ∧ LiesIn w F p.a ∧ LiesIn w F p.b := by
  obtain ⟨b, off, e, hb, hc⟩ := h.2.2 (by omega)
  have hl : k < ps.length := by rw [h.1]; exact hk
  have hp := List.getElem?_eq_getElem hl
  have hm := h.2.1 _ (List.getElem_mem hl)
  exact ⟨b, off, ps[k], e, hb, hp, (hc k _ hp).1, (hc k _ hp).2, hm.1, hm.2⟩
end StIn
/-- New memory: rows in a block from base on. -/
def OwnSt (w : World) (base : Nat) (A : Option Addr) (n c : Nat) (ps : List PairV) : Prop :=
  w.ownsRow base 45 2 (.slice A n c) n (ps.flatMap PairV.vals)
theorem vals_len (ps : List PairV) : (ps.flatMap PairV.vals).length = ps.length * 2 := by
  induction ps with
  | nil => rfl
  | cons p ps ih => rw [List.flatMap_cons, List.length_append, ih, List.length_cons]; simp [PairV.vals]; omega
theorem vals_at : ∀ (ps : List PairV) (i : Nat) (p : PairV), ps[i]? = some p → (ps.flatMap PairV.vals)[i * 2]? = some p.a.val ∧ (ps.flatMap PairV.vals)[i * 2 + 1]? = some p.b.val
  | [], i, p, h => by simp at h
  | q :: ps, 0, p, h => by
    simp at h
    subst h
    exact ⟨rfl, rfl⟩
  | q :: ps, i + 1, p, h => by
    have ih := vals_at ps i p (by simpa using h)
    have e : ((q :: ps).flatMap PairV.vals) = q.a.val :: q.b.val :: ps.flatMap PairV.vals := rfl
    rw [e, show (i + 1) * 2 = i * 2 + 1 + 1 by omega]
    simpa using ih
namespace OwnSt
variable {w w' : World} {base n c : Nat} {A : Option Addr} {ps : List PairV}
theorem length (h : OwnSt w base A n c ps) : ps.length = n := by have := h.1; rw [vals_len] at this; omega
theorem none_ (w : World) (base : Nat) : OwnSt w base none 0 0 [] := World.ownsRow_nil w base _ 2
theorem keep (h : OwnSt w base A n c ps) (k : Keep w w') : OwnSt w' base A n c ps :=
  h.kept (row := none) ⟨k.os, k.tape, k.output, k.size, fun i hi _ => k.block i hi⟩ (by
    cases hb : (Value.slice A n c).ownBlock with
    | none => exact Or.inl rfl
    | some g => exact Or.inr (by simp))
theorem turned {F : Nat → Prop} (h : OwnSt w base A n c ps) (k : Turned F w w') (hn : ∀ b, (Value.slice A n c).ownBlock = some b → ¬ F b) : OwnSt w' base A n c ps := k.owns h hn
theorem lower {base' : Nat} (h : OwnSt w base A n c ps) (hb : base' ≤ base) : OwnSt w base' A n c ps := by
  refine ⟨h.1, ?_⟩
  rcases h.2 with h1 | ⟨g, cap, cur, hv, hg, r⟩
  · exact Or.inl h1
  · exact Or.inr ⟨g, cap, cur, hv, Nat.le_trans hb hg, r⟩
theorem block (h : OwnSt w base A n c ps) (hn : 0 < n) : ∃ g, A = some ⟨g, 0, none⟩ ∧ base ≤ g ∧ g < w.heap.size := by
  rcases h.2 with ⟨hv, h0⟩ | ⟨g, cap, cur, hv, hg, hh, _⟩
  · omega
  · injection hv with h1 h2 h3
    exact ⟨g, h1, hg, (Array.getElem?_eq_some_iff.1 hh).1⟩
theorem le (h : OwnSt w base A n c ps) : n ≤ c := by
  rcases h.2 with ⟨hv, h0⟩ | ⟨g, cap, cur, hv, _, _, hle, _⟩
  · omega
  · injection hv with _ _ h3; omega
theorem stIn {F : Nat → Prop} (h : OwnSt w base A n c ps) (hp : ∀ p ∈ ps, LiesIn w F p.a ∧ LiesIn w F p.b) (hF : ∀ b, (Value.slice A n c).ownBlock = some b → F b) : StIn w F A n ps := by
  refine ⟨h.length, hp, fun hn => ?_⟩
  obtain ⟨g, rfl, _, hlt⟩ := h.block hn
  refine ⟨g, 0, rfl, hF g rfl, fun i p hi => ?_⟩
  obtain ⟨v1, v2⟩ := vals_at ps i p hi
  have c1 := World.ownsRow.cells h (g := g) rfl _ _ v1
  have c2 := World.ownsRow.cells h (g := g) rfl _ _ v2
  have ha : ∀ j, (⟨g, 0, none⟩ : Addr).add j = ⟨g, 0 + j, none⟩ := fun j => by unfold Addr.add; split <;> simp_all
  rw [ha] at c1 c2
  exact ⟨c1, c2⟩
end OwnSt
theorem infoSt : (Tryz.prog.info? 45).map (fun i => (i.zero, i.size, i.bytes)) = some (some (.agg #[.slice none 0 0, .slice none 0 0]), 2, 48) := by kernel_rfl
theorem run_append_st {w : World} {base n c cx t : Nat} {A : Option Addr} {ps : List PairV} {ad : Addr} (p : PairV) (ht : Tryz.prog.underlying t = some (.slice 45)) (hown : OwnSt w base A n c ps) (h0 : w.cell? (ad.add 0) = some p.a.val) (h1 : w.cell? (ad.add 1) = some p.b.val) (hlen : n ≤ 1000000) (hbase : base ≤ w.heap.size) (ty : TypeId) :
    ∃ A2 c2 w', (Builtin.append_ #[t, t] ty #[.slice A n c, .slice (some ad) 1 cx]).run Tryz.prog w = .ok (.slice A2 (n + 1) c2) w' ∧ OwnSt w' base A2 (n + 1) c2 (ps ++ [p]) ∧ w.grownBy w' (Value.slice A n c).ownBlock ∧ ((Value.slice A2 (n + 1) c2).ownBlock = (Value.slice A n c).ownBlock ∨ (Value.slice A2 (n + 1) c2).ownBlock = some w.heap.size) := by
  obtain ⟨i0, hi0, hz0, hz1, hz2⟩ := info_parts infoSt
  obtain ⟨v', w', hrun, h2, h3, _, h5⟩ := run_append_own_at (P := Tryz.prog) w base t ty _ i0 (.agg #[.slice none 0 0, .slice none 0 0]) 2 48 ht hi0 hz0 hz1 hz2 rfl (by decide) _ n _ hown ad 1 cx p.vals rfl
    (fun j u hj => by
      match j, hj with
      | 0, hj => simp [PairV.vals] at hj; subst hj; exact h0
      | 1, hj => simp [PairV.vals] at hj; subst hj; exact h1
      | j + 2, hj => simp [PairV.vals] at hj)
    (fun u hu => by
      simp [PairV.vals] at hu
      rcases hu with rfl | rfl <;> rfl) (by unfold maxLen; omega) (by omega) hbase
  have e : ps.flatMap PairV.vals ++ p.vals = (ps ++ [p]).flatMap PairV.vals := by rw [List.flatMap_append]; simp
  rw [e] at h2
  obtain ⟨A2, c2, rfl⟩ := own_shape h2
  exact ⟨A2, c2, w', hrun, h2, h3, h5⟩
/-- append(rows, row), the row in a block of one. -/
theorem wpList_append_st {ops : Array Oper} {rest : List Oper} {o : Oper} {a : Act} {Q : Exit → Act → World → Prop} {w : World} (hgd : o.guard = none) (s x : Operand) (t : TypeId)
    (ho : o.op = .call { callee := .builtin .append, args := #[s, x], argTypes := #[t, t] }) {base n c cx : Nat} {A : Option Addr} {ps : List PairV} {gx : Nat} (p : PairV) (ht : Tryz.prog.underlying t = some (.slice 45))
    (hs : a.eval s = .slice A n c) (hown : OwnSt w base A n c ps) (hx0 : a.eval x = .slice (some ⟨gx, 0, none⟩) 1 cx) (h0 : w.cell? ⟨gx, 0, none⟩ = some p.a.val) (h1 : w.cell? ⟨gx, 1, none⟩ = some p.b.val) (hlen : n ≤ 1000000) (hbase : base ≤ w.heap.size)
    (h : ∀ A2 c2 w', OwnSt w' base A2 (n + 1) c2 (ps ++ [p]) → w.grownBy w' (Value.slice A n c).ownBlock → ((Value.slice A2 (n + 1) c2).ownBlock = (Value.slice A n c).ownBlock ∨ (Value.slice A2 (n + 1) c2).ownBlock = some w.heap.size) → wpList Tryz.prog ops Q rest (a.put o.dst (.slice A2 (n + 1) c2)) w') : wpList Tryz.prog ops Q (o :: rest) a w := by
  refine wpList_plain hgd fun _ hK => ?_
  have ha : ∀ j, (⟨gx, 0, none⟩ : Addr).add j = ⟨gx, j, none⟩ := fun j => by unfold Addr.add; split <;> simp_all
  obtain ⟨A2, c2, w', hr, h2, h3, h4⟩ := run_append_st (cx := cx) (ad := ⟨gx, 0, none⟩) p ht hown (by rw [ha]; exact h0) (by rw [ha]; exact h1) hlen hbase o.type
  unfold Oper.wp execOp
  simp only [ho, resolve, invoke, builtin, Sem.run_bind, Sem.run_pure, Result.andThen_ok, List.map_toArray, List.map_cons, List.map_nil, hs, hx0, hr]
  exact hK _ _ (h A2 c2 w' h2 h3 h4)
end Go.Proofs.YtgelalbmhllccaaGreat
/- An argument that is a slice of stage 14's ops: an int, two numbers of 64 bits, a row, a slice of bytes. -/
namespace Go.Proofs.YtgelalbmhllccaaGreat
open Go.RowKit Go.ChangeShapes Go.WideShapes Go.Deep
set_option linter.unusedVariables false
/-- A call told by data. -/
structure OpV where
  what : Int
  gen : Nat
  sent : Nat
  row : PairV
  by_ : RowV
/-- A slice of n calls at A, below block B. -/
def OpsAt (w : World) (B : Nat) (A : Option Addr) (n : Nat) (l : List OpV) : Prop :=
  l.length = n ∧ (∀ a ∈ l, (Bytes w B a.row.a.A a.row.a.n a.row.a.xs ∧ a.row.a.n ≤ 140737488351232 ∧ a.row.a.n ≤ a.row.a.c) ∧ (Bytes w B a.row.b.A a.row.b.n a.row.b.xs ∧ a.row.b.n ≤ 140737488351232 ∧ a.row.b.n ≤ a.row.b.c) ∧ (Bytes w B a.by_.A a.by_.n a.by_.xs ∧ a.by_.n ≤ 140737488351232 ∧ a.by_.n ≤ a.by_.c) ∧ a.gen < 18446744073709551616 ∧ a.sent < 18446744073709551616) ∧
  (0 < n → ∃ b off, A = some ⟨b, off, none⟩ ∧ b < B ∧ ∀ i a, l[i]? = some a → w.cell? ⟨b, off + i * 6, none⟩ = some (.int .i64 a.what) ∧ w.cell? ⟨b, off + i * 6 + 1, none⟩ = some (.int .u64 (a.gen : Int)) ∧ w.cell? ⟨b, off + i * 6 + 2, none⟩ = some (.int .u64 (a.sent : Int)) ∧ w.cell? ⟨b, off + i * 6 + 3, none⟩ = some a.row.a.val ∧ w.cell? ⟨b, off + i * 6 + 4, none⟩ = some a.row.b.val ∧ w.cell? ⟨b, off + i * 6 + 5, none⟩ = some a.by_.val)
/-- One of them, later. -/
theorem OpsAt.at_ {w wr : World} {A : Option Addr} {m j : Nat} {l : List OpV} (h : OpsAt w w.heap.size A m l) (k : Keep w wr) (hj : j < m) :
    ∃ (b off : Nat) (a : OpV), A = some ⟨b, off, none⟩ ∧ b < w.heap.size ∧ wr.cell? ⟨b, off + j * 6, none⟩ = some (.int .i64 a.what) ∧ wr.cell? ⟨b, off + j * 6 + 1, none⟩ = some (.int .u64 (a.gen : Int)) ∧ wr.cell? ⟨b, off + j * 6 + 2, none⟩ = some (.int .u64 (a.sent : Int)) ∧ wr.cell? ⟨b, off + j * 6 + 3, none⟩ = some (.slice a.row.a.A a.row.a.n a.row.a.c) ∧ wr.cell? ⟨b, off + j * 6 + 4, none⟩ = some (.slice a.row.b.A a.row.b.n a.row.b.c) ∧ wr.cell? ⟨b, off + j * 6 + 5, none⟩ = some (.slice a.by_.A a.by_.n a.by_.c) ∧
      (Bytes wr w.heap.size a.row.a.A a.row.a.n a.row.a.xs ∧ a.row.a.n ≤ 140737488351232 ∧ a.row.a.n ≤ a.row.a.c) ∧ (Bytes wr w.heap.size a.row.b.A a.row.b.n a.row.b.xs ∧ a.row.b.n ≤ 140737488351232 ∧ a.row.b.n ≤ a.row.b.c) ∧ (Bytes wr w.heap.size a.by_.A a.by_.n a.by_.xs ∧ a.by_.n ≤ 140737488351232 ∧ a.by_.n ≤ a.by_.c) ∧ a.gen < 18446744073709551616 ∧ a.sent < 18446744073709551616 := by
  obtain ⟨b, off, rfl, hb, hc⟩ := h.2.2 (by omega)
  have hl := List.getElem?_eq_getElem (l := l) (i := j) (by rw [h.1]; exact hj)
  have hk : ∀ o v, w.cell? ⟨b, o, none⟩ = some v → wr.cell? ⟨b, o, none⟩ = some v := fun o v hv => (Below.cell (B := w.heap.size) k (show b < w.heap.size by omega)).trans hv
  obtain ⟨c0, c1, c2, c3, c4, c5⟩ := hc j _ hl
  obtain ⟨⟨a1, a2⟩, ⟨b1, b2⟩, ⟨d1, d2⟩, e1, e2⟩ := h.2.1 _ (List.mem_of_getElem? hl)
  exact ⟨b, off, _, rfl, hb, hk _ _ c0, hk _ _ c1, hk _ _ c2, hk _ _ c3, hk _ _ c4, hk _ _ c5, ⟨a1.keep (Nat.le_refl _) k, a2⟩, ⟨b1.keep (Nat.le_refl _) k, b2⟩, ⟨d1.keep (Nat.le_refl _) k, d2⟩, e1, e2⟩
theorem u64_op {a : Int} (h : (Lit.int .u64 a).wf = true) : ∃ n : Nat, a = n ∧ n < 18446744073709551616 := by
  have h2 := bounds_u64 h
  obtain ⟨n, rfl⟩ := Int.eq_ofNat_of_zero_le h2.1
  exact ⟨n, rfl, by omega⟩
section
variable {H : Type} {enc : TypeId × Value → H} {P : Program} {W : World}
/-- A reading of a slice of structs, field by field. -/
theorem structs_gen {t e : TypeId} {fs : Array Field} {C : Nat} (ht : P.underlying t = some (.slice e)) (he : P.underlying e = some (.struct fs)) (hC : P.cellsOf e = C) (hpos : 0 < C) (hbe : 1 ≤ P.bytesOf e)
    {v : Value} {d : DataW H} {p : List MemPlace} {fuel : Nat} (h : DataW.trod enc P W 0 (fun _ => true) true fuel t [v] = some (d, p)) (hs : ∀ n ∈ d.weights P t, n ≤ reachBytes) :
    ∃ (A : Option Addr) (n c : Nat) (l : List (List Value)), v = .slice A n c ∧ FieldsAt W W.heap.size A n C l ∧ n ≤ 140737488351232 ∧ n ≤ c ∧
      ∀ r ∈ l, ∀ (j : Nat) (f : Field), fs[j]? = some f → ∃ (d : DataW H) (p : List MemPlace) (m : Nat), DataW.trod enc P W 0 (fun _ => true) true m f.type ((r.drop f.offset).take (P.cellsOf f.type)) = some (d, p) ∧ ∀ q ∈ d.weights P f.type, q ≤ reachBytes := by
  subst hC
  rcases open_slice ht h with ⟨hcs, _⟩ | ⟨a, len, cap, m, n, D, Pl, hcs, _, hl, hm, hmm, hx, hi⟩
  · simp at hcs
    exact ⟨none, 0, 0, [], hcs, ⟨rfl, fun r hr => by simp at hr, fun h => absurd h (by omega)⟩, by omega, by omega, fun r hr => by simp at hr⟩
  · simp at hcs
    have hmc : m = cap := by simpa using hmm
    simp only [Prod.mk.injEq] at hx
    obtain ⟨hde, _⟩ := hx
    have hr : reachBytes = 140737488351232 := by decide
    have hlen : len ≤ 140737488351232 := by
      have h1 := hs ((((List.range len).map D).length + ((List.range (m - len)).map fun j => D (len + j)).length) * P.bytesOf e) (by rw [hde]; simp [DataW.weights, ht])
      simp only [List.length_map, List.length_range] at h1
      have h2 : len * 1 ≤ (len + (m - len)) * P.bytesOf e := Nat.mul_le_mul (by omega) hbe
      omega
    have each : ∀ i, i < len → ∃ r : List Value, r.length = P.cellsOf e ∧ (∀ j u, r[j]? = some u → W.cell? (a.add (i * P.cellsOf e + j)) = some u) ∧
        ∀ (j : Nat) (f : Field), fs[j]? = some f → ∃ (d : DataW H) (p : List MemPlace) (m : Nat), DataW.trod enc P W 0 (fun _ => true) true m f.type ((r.drop f.offset).take (P.cellsOf f.type)) = some (d, p) ∧ ∀ q ∈ d.weights P f.type, q ≤ reachBytes := by
      intro i hin
      obtain ⟨cs', h1, h2⟩ := hi i (by omega)
      obtain ⟨_, hlen', hcell⟩ := World.cells?_some h1
      obtain ⟨xs, k, _, hxy, _, hxl, hf⟩ := DataW.trod_struct he h2
      simp only [Prod.mk.injEq] at hxy
      refine ⟨cs', hlen', fun j u hju => ?_, fun j f hjf => ?_⟩
      · have hj : j < P.cellsOf e := by
          rcases Nat.lt_or_ge j cs'.length with hh | hh
          · omega
          · rw [List.getElem?_eq_none hh] at hju; cases hju
        have hc := hcell j hj
        rw [add_add] at hc
        rw [hc, hju]
      · have hj : j < fs.size := (Array.getElem?_eq_some_iff.1 hjf).1
        have g := hf j f hjf
        rw [List.getElem?_eq_getElem (by omega)] at g
        refine ⟨xs[j].1, xs[j].2, k, g, fun q hq => hs q ?_⟩
        rw [hde]
        simp only [DataW.weights, ht, List.mem_cons, List.mem_append]
        refine Or.inr (Or.inl (weights_all (List.mem_map.2 ⟨i, List.mem_range.2 hin, rfl⟩) q ?_))
        rw [hxy.1]
        simp only [DataW.weights, he]
        exact weights_each (j := j) (t := f.type) (d := xs[j].1) (by rw [List.getElem?_map]; simp [hjf]) (by rw [List.getElem?_map, List.getElem?_eq_getElem (by omega)]; rfl) q hq
    obtain ⟨R, hR⟩ := choose_lt each
    refine ⟨some a, len, cap, (List.range len).map R, hcs, ⟨by simp, fun r hr => ?_, fun hp => ?_⟩, hlen, hl, fun r hr => ?_⟩
    · obtain ⟨i, hin, rfl⟩ := List.mem_map.1 hr
      exact (hR i (List.mem_range.1 hin)).1
    · obtain ⟨b, off, spot⟩ := a
      have hr0 := hR 0 hp
      have h0 := hr0.2.1 0 ((R 0).getD 0 undef) (by simp [List.getD, List.getElem?_eq_getElem (show 0 < (R 0).length by rw [hr0.1]; exact hpos)])
      have hspot : spot = none := by simpa [Addr.add] using World.cell?_spot h0
      subst hspot
      refine ⟨b, off, rfl, World.block_lt_of_cell? W _ (show W.cell? ⟨b, off, none⟩ = _ by simpa [Addr.add] using h0), fun i r j v hir hjv => ?_⟩
      have hin : i < len := by
        rcases Nat.lt_or_ge i len with h | h
        · exact h
        · rw [List.getElem?_eq_none (by simpa using h)] at hir; cases hir
      have hri : r = R i := by simp [hin] at hir; exact hir.symm
      subst hri
      have h1 := (hR i hin).2.1 j v hjv
      have ha : (⟨b, off, none⟩ : Addr).add (i * P.cellsOf e + j) = ⟨b, off + (i * P.cellsOf e + j), none⟩ := by unfold Addr.add; split <;> simp_all
      rwa [ha] at h1
    · obtain ⟨i, hin, rfl⟩ := List.mem_map.1 hr
      exact (hR i (List.mem_range.1 hin)).2.2
end
end Go.Proofs.YtgelalbmhllccaaGreat
/- An argument that is a slice of stage 15's acts: an int, a number of 64 bits, a row. -/
namespace Go.Proofs.YtgelalbmhllccaaGreat
open Go.RowKit Go.ChangeShapes Go.WideShapes Go.Deep
set_option linter.unusedVariables false
/-- A call told by data. -/
structure SopV where
  what : Int
  gen : Nat
  row : PairV
/-- A slice of n calls at A, below block B. -/
def SopsAt (w : World) (B : Nat) (A : Option Addr) (n : Nat) (l : List SopV) : Prop :=
  l.length = n ∧ (∀ a ∈ l, (Bytes w B a.row.a.A a.row.a.n a.row.a.xs ∧ a.row.a.n ≤ 140737488351232 ∧ a.row.a.n ≤ a.row.a.c) ∧ (Bytes w B a.row.b.A a.row.b.n a.row.b.xs ∧ a.row.b.n ≤ 140737488351232 ∧ a.row.b.n ≤ a.row.b.c) ∧ a.gen < 18446744073709551616) ∧
  (0 < n → ∃ b off, A = some ⟨b, off, none⟩ ∧ b < B ∧ ∀ i a, l[i]? = some a → w.cell? ⟨b, off + i * 4, none⟩ = some (.int .i64 a.what) ∧ w.cell? ⟨b, off + i * 4 + 1, none⟩ = some (.int .u64 (a.gen : Int)) ∧ w.cell? ⟨b, off + i * 4 + 2, none⟩ = some a.row.a.val ∧ w.cell? ⟨b, off + i * 4 + 3, none⟩ = some a.row.b.val)
/-- One of them, later. -/
theorem SopsAt.at_ {w wr : World} {A : Option Addr} {m j : Nat} {l : List SopV} (h : SopsAt w w.heap.size A m l) (k : Keep w wr) (hj : j < m) :
    ∃ (b off : Nat) (a : SopV), A = some ⟨b, off, none⟩ ∧ b < w.heap.size ∧ wr.cell? ⟨b, off + j * 4, none⟩ = some (.int .i64 a.what) ∧ wr.cell? ⟨b, off + j * 4 + 1, none⟩ = some (.int .u64 (a.gen : Int)) ∧ wr.cell? ⟨b, off + j * 4 + 2, none⟩ = some (.slice a.row.a.A a.row.a.n a.row.a.c) ∧ wr.cell? ⟨b, off + j * 4 + 3, none⟩ = some (.slice a.row.b.A a.row.b.n a.row.b.c) ∧
      (Bytes wr w.heap.size a.row.a.A a.row.a.n a.row.a.xs ∧ a.row.a.n ≤ 140737488351232 ∧ a.row.a.n ≤ a.row.a.c) ∧ (Bytes wr w.heap.size a.row.b.A a.row.b.n a.row.b.xs ∧ a.row.b.n ≤ 140737488351232 ∧ a.row.b.n ≤ a.row.b.c) ∧ a.gen < 18446744073709551616 := by
  obtain ⟨b, off, rfl, hb, hc⟩ := h.2.2 (by omega)
  have hl := List.getElem?_eq_getElem (l := l) (i := j) (by rw [h.1]; exact hj)
  have hk : ∀ o v, w.cell? ⟨b, o, none⟩ = some v → wr.cell? ⟨b, o, none⟩ = some v := fun o v hv => (Below.cell (B := w.heap.size) k (show b < w.heap.size by omega)).trans hv
  obtain ⟨c0, c1, c2, c3⟩ := hc j _ hl
  obtain ⟨⟨a1, a2⟩, ⟨b1, b2⟩, e1⟩ := h.2.1 _ (List.mem_of_getElem? hl)
  exact ⟨b, off, _, rfl, hb, hk _ _ c0, hk _ _ c1, hk _ _ c2, hk _ _ c3, ⟨a1.keep (Nat.le_refl _) k, a2⟩, ⟨b1.keep (Nat.le_refl _) k, b2⟩, e1⟩
section
variable {H : Type} {enc : TypeId × Value → H} {P : Program} {W : World}
/-- An argument that is a slice of acts. -/
theorem arg_sops {t e tr tu te ti tq : TypeId} {f0 f1 f2 g0 g1 : Field} (ht : P.underlying t = some (.slice e)) (he : P.underlying e = some (.struct #[f0, f1, f2])) (hC : P.cellsOf e = 4) (hbe : 1 ≤ P.bytesOf e)
    (hf0 : f0.type = ti ∧ f0.offset = 0) (hf1 : f1.type = tq ∧ f1.offset = 1) (hf3 : f2.type = tr ∧ f2.offset = 2) (hti : P.underlying ti = some (.int .i64)) (hci : P.cellsOf ti = 1) (htq : P.underlying tq = some (.int .u64)) (hcq : P.cellsOf tq = 1) (htr : P.underlying tr = some (.struct #[g0, g1])) (hcr : P.cellsOf tr = 2) (hg0 : g0.type = tu ∧ g0.offset = 0) (hg1 : g1.type = tu ∧ g1.offset = 1)
    (hu : P.underlying tu = some (.slice te)) (hcu : P.cellsOf tu = 1) (hte : P.underlying te = some (.int .u8)) (hc : P.cellsOf te = 1) (hb : P.bytesOf te = 1)
    {ts : List TypeId} {ds : List (DataW H)} (hsz : (DataW.weightsEach P ts ds).all (· ≤ reachBytes) = true) {j : Nat} (hj : ts[j]? = some t) {v : Value} {d : DataW H} {p : List MemPlace} (hd : ds[j]? = some d)
    {base : Nat} (hv : Value.okWide P W .any base t v) (h : DataW.Trod enc P W 0 (fun _ => true) true t v d p) :
    ∃ (A : Option Addr) (n c : Nat) (l : List SopV), v = .slice A n c ∧ SopsAt W W.heap.size A n l ∧ n ≤ 140737488351232 ∧ n ≤ c := by
  obtain ⟨A, n, c, rfl⟩ := okWide_slice ht hv
  obtain ⟨fuel, hf⟩ := h
  obtain ⟨A', n', c', l, e0, hA, hn, hnc, hl⟩ := structs_gen ht he hC (by omega) hbe (fuel := fuel) (by simpa [Value.cells] using hf) fun n hn => by
    have := List.all_eq_true.1 hsz n (DataW.weights_mem_each hj hd n hn)
    simpa using this
  have each : ∀ i, i < n' → ∃ a : SopV, l[i]? = some [.int .i64 a.what, .int .u64 (a.gen : Int), a.row.a.val, a.row.b.val] ∧ (Bytes W W.heap.size a.row.a.A a.row.a.n a.row.a.xs ∧ a.row.a.n ≤ 140737488351232 ∧ a.row.a.n ≤ a.row.a.c) ∧ (Bytes W W.heap.size a.row.b.A a.row.b.n a.row.b.xs ∧ a.row.b.n ≤ 140737488351232 ∧ a.row.b.n ≤ a.row.b.c) ∧ a.gen < 18446744073709551616 := fun i hi => by
    have hil : i < l.length := by rw [hA.1]; exact hi
    have hm := List.getElem_mem hil
    have hlen := hA.2.1 _ hm
    obtain ⟨d0, p0, m0, t0, w0⟩ := hl _ hm 0 f0 rfl
    obtain ⟨d3, p3, m3, t3, w3⟩ := hl _ hm 1 f1 rfl
    obtain ⟨d1, p1, m1, t1, w1⟩ := hl _ hm 2 f2 rfl
    rw [List.getElem?_eq_getElem hil]
    match hx : l[i], hlen with
    | [x0, x4, x1, x2], _ =>
      rw [hx] at t0 t1 t3
      rw [hf0.1, hf0.2, hci] at t0
      rw [hf1.1, hf1.2, hcq] at t3
      rw [hf3.1, hf3.2, hcr] at t1
      rw [hf3.1] at w1
      obtain ⟨a, e1, _, _⟩ := DataW.trod_int hti t0
      simp at e1
      obtain ⟨a3, e3, _, hr3⟩ := DataW.trod_int htq t3
      simp at e3
      obtain ⟨z3, rfl, hz3⟩ := u64_op hr3
      obtain ⟨xs, k, _, hxy, _, hxl, hff⟩ := DataW.trod_struct htr t1
      simp only [Prod.mk.injEq] at hxy
      have hx0 := hff 0 g0 rfl
      have hx1 := hff 1 g1 rfl
      rw [hg0.1, hg0.2, hcu, List.getElem?_eq_getElem (l := xs) (i := 0) (by rw [hxl]; simp)] at hx0
      rw [hg1.1, hg1.2, hcu, List.getElem?_eq_getElem (l := xs) (i := 1) (by rw [hxl]; simp)] at hx1
      have hw : ∀ (j : Nat) (f : Field) (hj : j < xs.length), (#[g0, g1] : Array Field)[j]? = some f → ∀ q ∈ (xs[j].1).weights P f.type, q ≤ reachBytes := fun j f hj hjf q hq => w1 q (by
        rw [hxy.1]
        simp only [DataW.weights, htr]
        exact weights_each (j := j) (t := f.type) (d := xs[j].1) (by rw [List.getElem?_map]; simp; exact ⟨f, by simpa using hjf, rfl⟩) (by rw [List.getElem?_map, List.getElem?_eq_getElem hj]; rfl) q hq)
      have hw0 := hw 0 g0 (by rw [hxl]; simp) rfl
      have hw1 := hw 1 g1 (by rw [hxl]; simp) rfl
      rw [hg0.1] at hw0
      rw [hg1.1] at hw1
      obtain ⟨A1, n1, c1, y1, r1, b1, l1, k1⟩ := bytes_of hu hte hc hb hx0 hw0
      obtain ⟨A2, n2, c2, y2, r2, b2, l2, k2⟩ := bytes_of hu hte hc hb hx1 hw1
      exact ⟨⟨a, z3, ⟨⟨A1, n1, c1, y1⟩, ⟨A2, n2, c2, y2⟩⟩⟩, by rw [e1, e3, r1, r2]; rfl, ⟨b1, l1, k1⟩, ⟨b2, l2, k2⟩, hz3⟩
  have : Inhabited SopV := ⟨⟨0, 0, ⟨⟨none, 0, 0, []⟩, ⟨none, 0, 0, []⟩⟩⟩⟩
  obtain ⟨R, hR⟩ := choose_lt each
  refine ⟨A', n', c', (List.range n').map R, e0, ⟨by simp, fun a ha => ?_, fun hp => ?_⟩, hn, hnc⟩
  · obtain ⟨i, hi, rfl⟩ := List.mem_map.1 ha
    exact (hR i (List.mem_range.1 hi)).2
  · obtain ⟨b, off, e, hbl, hcl⟩ := hA.2.2 hp
    refine ⟨b, off, e, hbl, fun i a hi => ?_⟩
    have hin : i < n' := by
      rcases Nat.lt_or_ge i n' with h | h
      · exact h
      · rw [List.getElem?_eq_none (by simpa using h)] at hi; cases hi
    have hai : a = R i := by simp [hin] at hi; exact hi.symm
    subst hai
    have hli := (hR i hin).1
    refine ⟨?_, ?_, ?_, ?_⟩
    · exact hcl i _ 0 _ hli rfl
    · have := hcl i _ 1 _ hli rfl; rwa [← Nat.add_assoc] at this
    · have := hcl i _ 2 _ hli rfl; rwa [← Nat.add_assoc] at this
    · have := hcl i _ 3 _ hli rfl; rwa [← Nat.add_assoc] at this
end
end Go.Proofs.YtgelalbmhllccaaGreat
/- Arguments that are arrays of bytes, by value: of two, of four. -/
namespace Go.Proofs.YtgelalbmhllccaaGreat
open Go.RowKit Go.ChangeShapes Go.WideShapes
set_option linter.unusedVariables false
section
variable {H : Type} {enc : TypeId × Value → H} {P : Program} {W : World} {base : Nat} {sp : Nat → Bool} {held : Bool}
end
end Go.Proofs.YtgelalbmhllccaaGreat
/- An argument that is a struct of two bytes, two slices of slices of bytes and a slice of bytes. -/
namespace Go.Proofs.YtgelalbmhllccaaGreat
open Go.RowKit Go.ChangeShapes Go.WideShapes Go.Deep
section
variable {H : Type} {enc : TypeId × Value → H} {P : Program} {W : World}
/-- An argument that is a struct whose fields are one cell each. -/
theorem arg_fields {t : TypeId} {fs : Array Field} (ht : P.underlying t = some (.struct fs)) (hone : oneCellFields P fs = true) (hC : P.cellsOf t = fs.size)
    {ts : List TypeId} {ds : List (DataW H)} (hsz : (DataW.weightsEach P ts ds).all (· ≤ reachBytes) = true) {j : Nat} (hj : ts[j]? = some t) {v : Value} {d : DataW H} {p : List MemPlace} (hd : ds[j]? = some d)
    {base : Nat} (hv : Value.okWide P W .any base t v) (h : DataW.Trod enc P W 0 (fun _ => true) true t v d p) :
    ∃ cs : List Value, v = .agg cs.toArray ∧ cs.length = fs.size ∧ ∀ (i : Nat) (f : Field), fs[i]? = some f → ∃ (u : Value) (d : DataW H) (p : List MemPlace) (m : Nat), cs[i]? = some u ∧ DataW.trod enc P W 0 (fun _ => true) true m f.type [u] = some (d, p) ∧ ∀ q ∈ d.weights P f.type, q ≤ reachBytes := by
  have hone' := hone_of hone
  obtain ⟨cs, rfl, hl⟩ : ∃ cs : List Value, v = .agg cs.toArray ∧ cs.length = fs.size := by
    simp only [Value.okWide, ht] at hv
    obtain ⟨cs, h1, h2, _⟩ := hv
    exact ⟨cs.toList, by rw [h1], by rw [Array.length_toList, h2, hC]⟩
  obtain ⟨fuel, hf⟩ := h
  obtain ⟨xs, k, _, hxy, _, hxl, hff⟩ := DataW.trod_struct ht hf
  simp only [Prod.mk.injEq] at hxy
  have hw : ∀ q ∈ d.weights P t, q ≤ reachBytes := fun q hq => by
    have := List.all_eq_true.1 hsz q (DataW.weights_mem_each hj hd q hq)
    simpa using this
  refine ⟨cs, rfl, hl, fun i f hif => ?_⟩
  have hi : i < fs.size := (Array.getElem?_eq_some_iff.1 hif).1
  obtain ⟨ho, hc1⟩ := hone' i f hif
  have g := hff i f hif
  have hcl : (Value.agg cs.toArray).cells.toList = cs := by simp [Value.cells]
  rw [hcl, ho, hc1, take1_drop cs i undef (by omega), List.getElem?_eq_getElem (by omega)] at g
  refine ⟨cs.getD i undef, xs[i].1, xs[i].2, k, by simp [List.getD, List.getElem?_eq_getElem (show i < cs.length by omega)], g, fun q hq => hw q ?_⟩
  rw [hxy.1]
  simp only [DataW.weights, ht]
  exact weights_each (j := i) (t := f.type) (d := xs[i].1) (by rw [List.getElem?_map]; simp [hif]) (by rw [List.getElem?_map, List.getElem?_eq_getElem (by omega)]; rfl) q hq
end
end Go.Proofs.YtgelalbmhllccaaGreat
/- Arguments opened: slices of Booleans; fields that are slices of bytes. -/
namespace Go.Proofs.YtgelalbmhllccaaGreat
open Go.RowKit Go.ChangeShapes Go.WideShapes Go.Deep
set_option linter.unusedVariables false
set_option linter.unusedSimpArgs false
section
variable {H : Type} {enc : TypeId × Value → H} {P : Program} {W : World}
end
end Go.Proofs.YtgelalbmhllccaaGreat
/- Arguments of stage 15's statements: a beginning; a trip. -/
namespace Go.Proofs.YtgelalbmhllccaaGreat
open Go.RowKit Go.ChangeShapes Go.WideShapes Go.Deep
set_option linter.unusedVariables false
section
variable {H : Type} {enc : TypeId × Value → H} {P : Program} {W : World}
/-- Three ints and a number of 64 bits. -/
theorem arg_sbegin {t ti tq : TypeId} {f0 f1 f2 f3 : Field} (ht : P.underlying t = some (.struct #[f0, f1, f2, f3])) (hone : oneCellFields P #[f0, f1, f2, f3] = true) (hC : P.cellsOf t = 4)
    (hf0 : f0.type = ti) (hf1 : f1.type = ti) (hf2 : f2.type = ti) (hf3 : f3.type = tq) (hti : P.underlying ti = some (.int .i64)) (htq : P.underlying tq = some (.int .u64))
    {ts : List TypeId} {ds : List (DataW H)} (hsz : (DataW.weightsEach P ts ds).all (· ≤ reachBytes) = true) {j : Nat} (hj : ts[j]? = some t) {v : Value} {d : DataW H} {p : List MemPlace} (hd : ds[j]? = some d)
    {base : Nat} (hv : Value.okWide P W .any base t v) (h : DataW.Trod enc P W 0 (fun _ => true) true t v d p) :
    ∃ (G S K : Int) (n : Nat), v = .agg #[.int .i64 G, .int .i64 S, .int .i64 K, .int .u64 (n : Int)] ∧ (Lit.int .i64 G).wf = true ∧ (Lit.int .i64 S).wf = true ∧ (Lit.int .i64 K).wf = true ∧ n < 18446744073709551616 := by
  obtain ⟨cs, rfl, hl, hf⟩ := arg_fields ht hone (by rw [hC]; rfl) hsz hj hd hv h
  match cs, hl with
  | [v0, v1, v2, v3], _ =>
    obtain ⟨u0, d0, p0, m0, e0, t0, w0⟩ := hf 0 f0 rfl
    obtain ⟨u1, d1, p1, m1, e1, t1, w1⟩ := hf 1 f1 rfl
    obtain ⟨u2, d2, p2, m2, e2, t2, w2⟩ := hf 2 f2 rfl
    obtain ⟨u3, d3, p3, m3, e3, t3, w3⟩ := hf 3 f3 rfl
    simp at e0 e1 e2 e3
    subst e0 e1 e2 e3
    rw [hf0] at t0
    rw [hf1] at t1
    rw [hf2] at t2
    rw [hf3] at t3
    obtain ⟨a0, e0, _, z0⟩ := DataW.trod_int hti t0
    obtain ⟨a1, e1, _, z1⟩ := DataW.trod_int hti t1
    obtain ⟨a2, e2, _, z2⟩ := DataW.trod_int hti t2
    obtain ⟨a3, e3, _, z3⟩ := DataW.trod_int htq t3
    simp at e0 e1 e2 e3
    subst e0 e1 e2 e3
    have h2 := bounds_u64 z3
    obtain ⟨n, rfl⟩ := Int.eq_ofNat_of_zero_le h2.1
    exact ⟨a0, a1, a2, n, rfl, z0, z1, z2, by omega⟩
end
end Go.Proofs.YtgelalbmhllccaaGreat
/- Numbers' forms to the base 256, as lists of numbers. -/
namespace Go.Proofs.YtgelalbmhllccaaGreat

/-- What digits say. -/
def valN (l : List Nat) : Nat := l.foldl (fun a x => 256 * a + x) 0
theorem valN_snoc (l : List Nat) (x : Nat) : valN (l ++ [x]) = 256 * valN l + x := by simp [valN]
theorem list_snoc {P : List Nat → Prop} (h0 : P []) (hs : ∀ l x, P l → P (l ++ [x])) (l : List Nat) : P l := by
  rw [← List.reverse_reverse l]
  induction l.reverse with
  | nil => simpa using h0
  | cons x t ih => rw [List.reverse_cons]; exact hs _ _ ih
theorem valN_lt (l : List Nat) : AllB l → valN l < 256 ^ l.length := by
  induction l using list_snoc with
  | h0 => simp [valN]
  | hs l x ih =>
    intro h
    rw [valN_snoc, List.length_append, List.length_singleton, Nat.pow_succ]
    have h1 := ih fun y hy => h y (by simp [hy])
    have h2 := h x (by simp)
    omega
theorem valN_take_succ (l : List Nat) (i : Nat) (hi : i < l.length) : valN (l.take (i + 1)) = 256 * valN (l.take i) + l.getD i 0 := by
  rw [List.take_add_one, List.getElem?_eq_getElem hi]
  simp only [Option.toList_some, valN_snoc]
  rw [List.getD_eq_getElem?_getD, List.getElem?_eq_getElem hi]; rfl
theorem set_append_right (xs ys : List Nat) (i v : Nat) : (xs ++ ys).set (xs.length + i) v = xs ++ ys.set i v := by
  rw [List.set_append_right _ _ (by omega), Nat.add_sub_cancel_left]
end Go.Proofs.YtgelalbmhllccaaGreat
/- Layer 9, plainly: symbols of a chunk, a chunk of symbols, the chunks of a stream. -/
namespace Go.Proofs.YtgelalbmhllccaaGreat
set_option linter.unusedVariables false
/-- A generation may be of g and s. -/
def MayG (g s : Int) : Prop := 1 ≤ g ∧ g ≤ 255 ∧ 1 ≤ s ∧ s ≤ 65535 ∧ 5 ≤ g * s
instance (g s : Int) : Decidable (MayG g s) := by unfold MayG; infer_instance
def cutN (s i : Nat) (ys : List Nat) : List Nat := (ys.drop (i * s)).take s
theorem flat_cut {s : Nat} : ∀ {R : List (List Nat)}, (∀ r ∈ R, r.length = s) → R.flatten.length = R.length * s
  | [], _ => by simp
  | r :: R, h => by
    rw [List.flatten_cons, List.length_append, flat_cut (R := R) fun x hx => h x (by simp [hx]), h r (by simp), List.length_cons, Nat.add_mul, Nat.one_mul, Nat.add_comm]
/-- What symbols tell: their error, their chunk. -/
def headN (ys : List Nat) : Nat := valN (ys.take 4)
def okSym (g s : Nat) (R : List (List Nat)) : Prop := R.length = g ∧ ∀ r ∈ R, r.length = s
def okForm (G : Nat) (ys : List Nat) : Prop := 1 ≤ headN ys ∧ headN ys ≤ G - 4 ∧ ∀ x ∈ ys.drop (4 + headN ys), x = 0
instance (g s : Nat) (R : List (List Nat)) : Decidable (okSym g s R) := by unfold okSym; infer_instance
instance (G : Nat) (ys : List Nat) : Decidable (okForm G ys) := by unfold okForm; infer_instance
def takeE (g s : Nat) (R : List (List Nat)) : Int := if ¬ okSym g s R then 21 else if ¬ okForm (g * s) R.flatten then 5 else 0
def takeV (g s : Nat) (R : List (List Nat)) : List Nat := if takeE g s R = 0 then (R.flatten.drop 4).take (headN R.flatten) else []
/-- The chunks behind t places, and where the open bytes begin. -/
def isEnd (room : Nat) (cuts : List Nat) (f t : Nat) : Prop := t - f = room ∨ f < t ∧ t ∈ cuts
instance (room : Nat) (cuts : List Nat) (f t : Nat) : Decidable (isEnd room cuts f t) := by unfold isEnd; infer_instance
def pieceN (xs : List Nat) (f t : Nat) : List Nat := (xs.drop f).take (t - f)
def chunkN (room : Nat) (cuts xs : List Nat) : Nat → List (List Nat) × Nat
  | 0 => ([], 0)
  | t + 1 => if isEnd room cuts (chunkN room cuts xs t).2 t then ((chunkN room cuts xs t).1 ++ [pieceN xs (chunkN room cuts xs t).2 t], t) else chunkN room cuts xs t
section
variable {room : Nat} {cuts xs : List Nat}
theorem chunkN_succ (t : Nat) : chunkN room cuts xs (t + 1) = if isEnd room cuts (chunkN room cuts xs t).2 t then ((chunkN room cuts xs t).1 ++ [pieceN xs (chunkN room cuts xs t).2 t], t) else chunkN room cuts xs t := rfl
theorem piece_len {f t : Nat} (hf : f ≤ t) (ht : t ≤ xs.length) : (pieceN xs f t).length = t - f := by
  rw [pieceN, List.length_take, List.length_drop]; omega
end
end Go.Proofs.YtgelalbmhllccaaGreat
/- A window's numbers, plainly: what is in it, what goes, slots. -/
namespace Go.Proofs.YtgelalbmhllccaaGreat
set_option linter.unusedVariables false
/-- All numbers end here. -/
def topN : Nat := 1099511627776
/-- Where a window of base b and width k ends. -/
def endN (b k : Nat) : Nat := min (b + k) topN
/-- What is in it, rising. -/
def winL (b k : Nat) : List Nat := List.range' b (endN b k - b)
def winIn (b k n : Nat) : Bool := decide (b ≤ n) && decide (n < endN b k)
/-- What is in it, and not in another one of the same width. -/
def winGone (b k c : Nat) : List Nat := (winL b k).filter fun n => !winIn c k n
theorem winL_length (b k : Nat) : (winL b k).length = endN b k - b := by simp [winL]
theorem winL_le (b k : Nat) : (winL b k).length ≤ k := by rw [winL_length, endN]; omega
theorem winL_get (b k i : Nat) (h : i < endN b k - b) : (winL b k)[i]? = some (b + i) := by
  rw [winL, List.getElem?_range' h, Nat.one_mul]
theorem winIn_iff (b k n : Nat) : winIn b k n = true ↔ b ≤ n ∧ n < endN b k := by simp [winIn]
theorem winIn_mem (b k n : Nat) : winIn b k n = decide (n ∈ winL b k) := by
  rw [Bool.eq_iff_iff, winIn_iff, decide_eq_true_eq, winL, List.mem_range'_1]
  omega
/-- The number behind the first i. -/
theorem first_succ (b i : Nat) : List.range' b (i + 1) = List.range' b i ++ [b + i] := by
  rw [List.range'_concat, Nat.one_mul]
theorem winL_succ (b i : Nat) (h : b + i < topN) : winL b (i + 1) = winL b i ++ [b + i] := by
  have e1 : endN b (i + 1) - b = i + 1 := by rw [endN]; omega
  have e2 : endN b i - b = i := by rw [endN]; omega
  rw [winL, winL, e1, e2, first_succ]
theorem winL_more (b i : Nat) (h : ¬ b + i < topN) : winL b (i + 1) = winL b i := by
  have e : endN b (i + 1) = endN b i := by rw [endN, endN]; omega
  rw [winL, winL, e]
theorem winL_none (b : Nat) : winL b 0 = [] := by
  have e : endN b 0 - b = 0 := by rw [endN]; omega
  rw [winL, e]; rfl
/-- What has gone of the first i. -/
def goneN (b k c i : Nat) : List Nat := (List.range' b i).filter fun n => !winIn c k n
theorem goneN_in (b k c i : Nat) (h : winIn c k (b + i) = true) : goneN b k c (i + 1) = goneN b k c i := by
  rw [goneN, first_succ, List.filter_append, ← goneN]; simp [h]
theorem goneN_out (b k c i : Nat) (h : winIn c k (b + i) = false) : goneN b k c (i + 1) = goneN b k c i ++ [b + i] := by
  rw [goneN, first_succ, List.filter_append, ← goneN]; simp [h]
theorem goneN_all (b k c : Nat) : goneN b k c (endN b k - b) = winGone b k c := rfl
theorem goneN_le (b k c i : Nat) : (goneN b k c i).length ≤ i := by
  refine Nat.le_trans (List.length_filter_le _ _) ?_
  simp
theorem winGone_le (b k c : Nat) : (winGone b k c).length ≤ k := Nat.le_trans (List.length_filter_le _ _) (winL_le b k)
end Go.Proofs.YtgelalbmhllccaaGreat
/- What a sink releases, plainly. -/
namespace Go.Proofs.YtgelalbmhllccaaGreat
set_option linter.unusedVariables false
/-- A generation that can be solved. -/
def rdyN (g k b : Nat) (L : Nat → List (List Nat)) (n : Nat) : Prop := winIn b k n = true ∧ (L n).length = g
instance (g k b : Nat) (L : Nat → List (List Nat)) (n : Nat) : Decidable (rdyN g k b L n) := by unfold rdyN; infer_instance
/-- Its symbols. -/
def symN (g : Nat) (B : List (List Nat)) : List (List Nat) := B.map (List.drop g)
/-- From generation n on the chunks l are released, up to n'; br: there it is broken. -/
structure RelT (g s k b : Nat) (L : Nat → List (List Nat)) (n : Nat) (l : List (List Nat)) (n' : Nat) (br : Bool) : Prop where
  j : n' = n + l.length
  at_ : ∀ i, i < l.length → rdyN g k b L (n + i) ∧ takeE g s (symN g (L (n + i))) = 0 ∧ l.getD i [] = takeV g s (symN g (L (n + i)))
  bad : br = true → rdyN g k b L n' ∧ takeE g s (symN g (L n')) ≠ 0
  end_ : br = false → ¬ rdyN g k b L n'
namespace RelT
variable {g s k b n n' m' : Nat} {L : Nat → List (List Nat)} {l m : List (List Nat)} {br bq : Bool}
theorem le (h : RelT g s k b L n l n' br) (h' : RelT g s k b L n m m' bq) : m.length ≤ l.length := by
  rcases Nat.lt_or_ge l.length m.length with e | e
  · obtain ⟨h1, h2, -⟩ := h'.at_ l.length e
    rw [← h.j] at h1 h2
    cases br with
    | true => exact absurd h2 (h.bad rfl).2
    | false => exact absurd h1 (h.end_ rfl)
  · exact e
/-- No two answers. -/
theorem only (h : RelT g s k b L n l n' br) (h' : RelT g s k b L n m m' bq) : l = m ∧ n' = m' ∧ br = bq := by
  have e := Nat.le_antisymm (h'.le h) (h.le h')
  have hn : n' = m' := by rw [h.j, h'.j, e]
  refine ⟨List.ext_getElem e fun i h1 h2 => ?_, hn, ?_⟩
  · have e1 := (h.at_ i h1).2.2
    have e2 := (h'.at_ i h2).2.2
    simp only [List.getD, List.getElem?_eq_getElem h1, Option.getD_some] at e1
    simp only [List.getD, List.getElem?_eq_getElem h2, Option.getD_some] at e2
    rw [e1, e2]
  · subst hn
    cases br with
    | true => cases bq with
      | true => rfl
      | false => exact absurd (h.bad rfl).1 (h'.end_ rfl)
    | false => cases bq with
      | true => exact absurd (h'.bad rfl).1 (h.end_ rfl)
      | false => rfl
end RelT
/-- On the way: the chunks l so far. -/
structure RelI (g s k b : Nat) (L : Nat → List (List Nat)) (n : Nat) (l : List (List Nat)) (n' : Nat) : Prop where
  j : n' = n + l.length
  at_ : ∀ i, i < l.length → rdyN g k b L (n + i) ∧ takeE g s (symN g (L (n + i))) = 0 ∧ l.getD i [] = takeV g s (symN g (L (n + i)))
namespace RelI
variable {g s k b n n' : Nat} {L : Nat → List (List Nat)} {l : List (List Nat)}
theorem start (g s k b : Nat) (L : Nat → List (List Nat)) (n : Nat) : RelI g s k b L n [] n := ⟨by simp, fun i hi => by simp at hi⟩
theorem more (h : RelI g s k b L n l n') (h1 : rdyN g k b L n') (h2 : takeE g s (symN g (L n')) = 0) : RelI g s k b L n (l ++ [takeV g s (symN g (L n'))]) (n' + 1) := ⟨by rw [h.j, List.length_append]; simp; omega, fun i hi => by
  rw [List.length_append] at hi
  by_cases e : i < l.length
  · obtain ⟨a, c, d⟩ := h.at_ i e
    exact ⟨a, c, by rw [← d]; simp [List.getD, List.getElem?_append_left e]⟩
  · obtain rfl : i = l.length := by simp at hi; omega
    rw [← h.j]
    exact ⟨h1, h2, by simp [List.getD]⟩⟩
theorem bad (h : RelI g s k b L n l n') (h1 : rdyN g k b L n') (h2 : takeE g s (symN g (L n')) ≠ 0) : RelT g s k b L n l n' true := ⟨h.j, h.at_, fun _ => ⟨h1, h2⟩, fun e => (by cases e)⟩
theorem done (h : RelI g s k b L n l n') (h1 : ¬ rdyN g k b L n') : RelT g s k b L n l n' false := ⟨h.j, h.at_, fun e => (by cases e), fun _ => h1⟩
/-- No more than a window is wide. -/
theorem few (h : RelI g s k b L n l n') : l.length ≤ k := by
  rcases Nat.eq_zero_or_pos l.length with e | e
  · omega
  · have h1 := (h.at_ 0 e).1.1
    have h2 := (h.at_ (l.length - 1) (by omega)).1.1
    rw [winIn_iff] at h1 h2
    have h3 : endN b k ≤ b + k := by unfold endN; omega
    omega
theorem top (h : RelI g s k b L n l n') (hn : n ≤ topN) : n' ≤ topN := by
  rcases Nat.eq_zero_or_pos l.length with e | e
  · rw [h.j, e]; exact hn
  · have h2 := (h.at_ (l.length - 1) (by omega)).1.1
    rw [winIn_iff] at h2
    have h3 : endN b k ≤ topN := by unfold endN; omega
    rw [h.j]; omega
end RelI
theorem rdy_top {g k b n : Nat} {L : Nat → List (List Nat)} (h : rdyN g k b L n) : n < topN := by
  have h1 := h.1
  rw [winIn_iff] at h1
  have h3 : endN b k ≤ topN := by unfold endN; omega
  omega
end Go.Proofs.YtgelalbmhllccaaGreat
/- Bytes in new memory (the document's own); bytes.Equal. -/
namespace Go.Proofs.YtgelalbmhllccaaGreat
open Go.RowKit
set_option maxRecDepth 100000 in
theorem rown_any (B n c : Nat) (A : Option Addr) (xs : List Nat) (w : World) (h : Bytes w B A n xs) (hn : n ≤ 140737488355328) :
    Calls Tryz.prog 86 #[.slice A n c] w (NewBytes w xs) := by
  go_enter Tryz.func86, Tryz.ntmps86
  go_wp2_with (at_builtin; refine wpList_append_bytes rfl _ _ 43 rfl Tryz.underlying43 info5 rfl (Own.none_ w w.heap.size 5) rfl h ?c1 (Nat.le_refl _) ?_)
  case c1 => omega
  intro A' c' w' hown hgr _
  have hk : Keep w w' := (Keep.refl w).grown hgr (fun k hk => by cases hk)
  go_wp2_with fail
  go_ret
  exact ⟨A', _, c', rfl, by simpa using hown, hk⟩
end Go.Proofs.YtgelalbmhllccaaGreat
/- The field of 256 elements over plain numbers: sums, products, powers, exponents, and that it is a field. -/
namespace Go.Proofs.YtgelalbmhllccaaGreat

/-- The product with x. -/
def xt (a : Nat) : Nat := (a * 2 % 256) ^^^ (27 * (a / 128))
/-- x to the k times a. -/
def xtn : Nat → Nat → Nat
  | 0, a => a
  | k + 1, a => xt (xtn k a)
/-- The first k steps of a product. -/
def mulTo (a b : Nat) : Nat → Nat
  | 0 => 0
  | k + 1 => mulTo a b k ^^^ (xtn k a * (b / 2 ^ k % 2))
def mulN (a b : Nat) : Nat := mulTo a b 8

theorem xor_lt {a b : Nat} (ha : a < 256) (hb : b < 256) : a ^^^ b < 256 := Nat.xor_lt_two_pow (n := 8) ha hb
theorem xt_lt {a : Nat} (ha : a < 256) : xt a < 256 := xor_lt (Nat.mod_lt _ (by decide)) (by omega)
theorem xtn_lt (k : Nat) {a : Nat} (ha : a < 256) : xtn k a < 256 := by
  induction k with
  | zero => exact ha
  | succ k ih => exact xt_lt ih
theorem bit_lt (b k : Nat) : b / 2 ^ k % 2 ≤ 1 := by omega
theorem mulTo_lt (a b k : Nat) (ha : a < 256) : mulTo a b k < 256 := by
  induction k with
  | zero => exact (by decide : (0 : Nat) < 256)
  | succ k ih =>
    refine xor_lt ih ?_
    have h := bit_lt b k
    have h2 := xtn_lt k ha
    rcases Nat.le_one_iff_eq_zero_or_eq_one.1 h with e | e <;> rw [e] <;> simp <;> omega
theorem mulN_lt {a : Nat} (b : Nat) (ha : a < 256) : mulN a b < 256 := mulTo_lt a b 8 ha

theorem stepbit_lt (x b k : Nat) (hx : x < 256) : x * (b / 2 ^ k % 2) < 256 := by
  rcases Nat.le_one_iff_eq_zero_or_eq_one.1 (bit_lt b k) with e | e <;> rw [e] <;> simp <;> omega
theorem bit_int (b k : Nat) (hb : b < 256) : bits .and .u8 ((b : Int) / 2 ^ k) 1 = ((b / 2 ^ k % 2 : Nat) : Int) := by
  have e : ((b : Int) / 2 ^ k) = ((b / 2 ^ k : Nat) : Int) := by simp
  have h : b / 2 ^ k < 256 := Nat.lt_of_le_of_lt (Nat.div_le_self _ _) hb
  rw [e, show (1 : Int) = ((1 : Nat) : Int) from rfl, u8_and_nat _ 1 h (by decide), Nat.and_one_is_mod]
theorem stepbit_int (x b k : Nat) (hx : x < 256) (hb : b < 256) : (x : Int) * bits .and .u8 ((b : Int) / 2 ^ k) 1 % 256 = ((x * (b / 2 ^ k % 2) : Nat) : Int) := by
  have h := stepbit_lt x b k hx
  rw [bit_int b k hb, ← Int.natCast_mul]
  omega

/-! ### Powers of 3 -/
def pw : Nat → Nat
  | 0 => 1
  | k + 1 => pw k ^^^ xt (pw k)
/-- The tables as one number each. -/
def bigP : Nat := 0xf652c7b46c241cfda297847cdd4b39170df2a794858a8f8c8d7b29ee5a36120ef351c6423ee3a891868b79de4acf45ca46cbb099772d1b0907f4a563211ffc54c543c8b16f25eaaf6523e858c1b69b80898e7adfbc9d827e2aefac64d5ba9f75dabf9c742ced5bc040c9473de25ec3413f15fa5632e75dc2b76dd24e3a16fba06020e9ae93712fecad92877d2b19fea361d6bb69271d0bf0503010f957c4b59a76db49ceb398817fdcbd6bd0b99e838878281808f1a662d74d3be0a967d44ccdb26ed3b868d14fcc443c140c04f55331e6ab9070d9be6a26eb5937e45c34e5aa66221e0a0602f7a49573d84838e15f3513f8a196722e1aff5533110f050301
def bigL : Nat := 0x770f7c0808c630d18fe31c5deed4a67a5e3997726b87cb4892e2023d9921144abd3f2565d9e2a14476da2413c843953d15b3f37cdcf95bcfcdcbe619087b2979d2955aa6ca1523b86b160fb5a3ebbccb77b76a42d1f43d8ec49c4176ff60c7fa051a99cb05fcb59f50b16eb7a75d72ce8ade6e7d5e9ae4f74d6eaf450a858af57a773f3e5acd44eca5e9f9b150a792bba3d85fa54286b3a421eb6a3c3486e7e1091882298e225b3628b06bf30fddd6638834640f1d25c1394ced036bddb8f968eda93354582f01224e10f21058a2f657809c99a72a6e44d6a27b9f9b51dc27dc11c69f8c808714cef818d340ee0046403dfee33681bc74bc61a023201190000
def pwT (i : Nat) : Nat := bigP >>> (8 * i) % 256
def lg (a : Nat) : Nat := bigL >>> (8 * a) % 256
def pwOk : Nat → Bool
  | 0 => pwT 0 == 1
  | k + 1 => pwOk k && pwT (k + 1) == (pwT k ^^^ xt (pwT k))
theorem pwOk_254 : pwOk 254 = true := by decide +kernel
theorem pw_of_ok (k : Nat) (h : pwOk k = true) : pw k = pwT k ∧ ∀ j, j ≤ k → pwOk j = true := by
  induction k with
  | zero => exact ⟨by simpa [pwOk, pw] using (beq_iff_eq.1 h).symm, fun j hj => by rw [show j = 0 by omega]; exact h⟩
  | succ k ih =>
    simp only [pwOk, Bool.and_eq_true, beq_iff_eq] at h
    obtain ⟨h1, h2⟩ := ih h.1
    refine ⟨by rw [pw, h1, h.2], fun j hj => ?_⟩
    by_cases e : j = k + 1
    · subst e; simp [pwOk, h.1, h.2]
    · exact h2 j (by omega)
theorem pw_T (k : Nat) (h : k < 255) : pw k = pwT k := (pw_of_ok k ((pw_of_ok 254 pwOk_254).2 k (by omega))).1
theorem pwT_lg : ∀ a, a < 256 → 1 ≤ a → lg a < 255 ∧ pwT (lg a) = a := by decide +kernel
theorem lg_pwT : ∀ i, i < 255 → lg (pwT i) = i ∧ 1 ≤ pwT i ∧ pwT i < 256 := by decide +kernel
theorem pw_lg (a : Nat) (h : a < 256) (h1 : 1 ≤ a) : pw (lg a) = a := by
  have := pwT_lg a h h1; rw [pw_T _ this.1]; exact this.2
theorem lg_lt (a : Nat) (h : a < 256) (h1 : 1 ≤ a) : lg a < 255 := (pwT_lg a h h1).1
theorem lg_pw (i : Nat) (h : i < 255) : lg (pw i) = i := by rw [pw_T i h]; exact (lg_pwT i h).1
theorem pw_pos (i : Nat) (h : i < 255) : 1 ≤ pw i := by rw [pw_T i h]; exact (lg_pwT i h).2.1
theorem pw_lt (i : Nat) : pw i < 256 := by
  induction i with
  | zero => exact (by decide : 1 < 256)
  | succ k ih => exact xor_lt ih (xt_lt ih)
theorem pw_255 : pw 255 = 1 := by rw [pw, pw_T 254 (by decide)]; decide +kernel
theorem pw_add255 (k : Nat) : pw (k + 255) = pw k := by
  induction k with
  | zero => rw [Nat.zero_add, pw_255]; rfl
  | succ k ih => rw [show k + 1 + 255 = (k + 255) + 1 by omega, pw, ih, pw]
theorem pw_mod (k : Nat) : pw (k % 255) = pw k := by
  induction k using Nat.strongRecOn with
  | _ k ih =>
    by_cases h : k < 255
    · rw [Nat.mod_eq_of_lt h]
    · have e : k = (k - 255) + 255 := by omega
      rw [e, Nat.add_mod_right, ih _ (by omega), pw_add255]

/-! ### Sums go through -/
theorem xt_xor_all : ∀ a, a < 256 → ∀ b, b < 256 → xt (a ^^^ b) = xt a ^^^ xt b := by decide +kernel
theorem xtn_xor (k : Nat) {a b : Nat} (ha : a < 256) (hb : b < 256) : xtn k (a ^^^ b) = xtn k a ^^^ xtn k b := by
  induction k with
  | zero => rfl
  | succ k ih => rw [xtn, ih, xt_xor_all _ (xtn_lt k ha) _ (xtn_lt k hb)]; rfl
theorem xtn_xt (k : Nat) (a : Nat) : xtn k (xt a) = xt (xtn k a) := by
  induction k with
  | zero => rfl
  | succ k ih => rw [xtn, ih]; rfl
theorem xor_swap (a b c d : Nat) : (a ^^^ b) ^^^ (c ^^^ d) = (a ^^^ c) ^^^ (b ^^^ d) := by
  rw [Nat.xor_assoc, ← Nat.xor_assoc b, Nat.xor_comm b c, Nat.xor_assoc c, ← Nat.xor_assoc a]
theorem xor_mulbit (x y b : Nat) (h : b ≤ 1) : (x ^^^ y) * b = x * b ^^^ y * b := by
  rcases Nat.le_one_iff_eq_zero_or_eq_one.1 h with e | e <;> subst e <;> simp
theorem mulTo_xor (a c b k : Nat) (ha : a < 256) (hc : c < 256) : mulTo (a ^^^ c) b k = mulTo a b k ^^^ mulTo c b k := by
  induction k with
  | zero => simp [mulTo]
  | succ k ih => rw [mulTo, ih, xtn_xor k ha hc, xor_mulbit _ _ _ (bit_lt b k), xor_swap]; rfl
theorem mulTo_xt (a b k : Nat) (ha : a < 256) : mulTo (xt a) b k = xt (mulTo a b k) := by
  induction k with
  | zero => simp only [mulTo]; decide
  | succ k ih =>
    rw [mulTo, ih, xtn_xt, mulTo, xt_xor_all _ (mulTo_lt a b k ha) _ (stepbit_lt _ b k (xtn_lt k ha))]
    congr 1
    rcases Nat.le_one_iff_eq_zero_or_eq_one.1 (bit_lt b k) with e | e <;> rw [e] <;> simp
    rfl
theorem mul_xor_left (a c b : Nat) (ha : a < 256) (hc : c < 256) : mulN (a ^^^ c) b = mulN a b ^^^ mulN c b := mulTo_xor a c b 8 ha hc
theorem mul_xt_left (a b : Nat) (ha : a < 256) : mulN (xt a) b = xt (mulN a b) := mulTo_xt a b 8 ha
theorem mul_one_left : ∀ b, b < 256 → mulN 1 b = b := by decide +kernel
theorem mul_zero_left (b : Nat) : mulN 0 b = 0 := by
  have h : ∀ k, xtn k 0 = 0 := fun k => by induction k with | zero => rfl | succ k ih => rw [xtn, ih]; rfl
  simp [mulN, mulTo, h]
theorem mul_zero_right (a : Nat) : mulN a 0 = 0 := by simp [mulN, mulTo]

/-- The product of two powers. -/
theorem mul_pw (i : Nat) (b : Nat) (hb : b < 256) (j : Nat) (hj : pw j = b) : mulN (pw i) b = pw (i + j) := by
  induction i with
  | zero => rw [show pw 0 = 1 from rfl, mul_one_left b hb, Nat.zero_add, hj]
  | succ i ih => rw [pw, mul_xor_left _ _ _ (pw_lt i) (xt_lt (pw_lt i)), mul_xt_left _ _ (pw_lt i), ih, show i + 1 + j = (i + j) + 1 by omega, pw]
theorem mul_pw_pw (i j : Nat) : mulN (pw i) (pw j) = pw (i + j) := mul_pw i (pw j) (pw_lt j) j rfl
theorem mul_lg (a b : Nat) (ha : a < 256) (hb : b < 256) (h1 : 1 ≤ a) (h2 : 1 ≤ b) : mulN a b = pw (lg a + lg b) := by
  have h := mul_pw_pw (lg a) (lg b)
  rwa [pw_lg a ha h1, pw_lg b hb h2] at h
theorem pw_pos' (k : Nat) : 1 ≤ pw k := by rw [← pw_mod]; exact pw_pos _ (Nat.mod_lt _ (by decide))
theorem pw_inj {i j : Nat} (h : pw i = pw j) : i % 255 = j % 255 := by
  rw [← pw_mod i, ← pw_mod j] at h
  have := congrArg lg h
  rwa [lg_pw _ (Nat.mod_lt _ (by decide)), lg_pw _ (Nat.mod_lt _ (by decide))] at this

/-! ### The field -/
theorem mul_comm' (a b : Nat) (ha : a < 256) (hb : b < 256) : mulN a b = mulN b a := by
  by_cases h1 : a = 0
  · subst h1; rw [mul_zero_left, mul_zero_right]
  by_cases h2 : b = 0
  · subst h2; rw [mul_zero_left, mul_zero_right]
  rw [mul_lg a b ha hb (by omega) (by omega), mul_lg b a hb ha (by omega) (by omega), Nat.add_comm]
theorem mul_eq_zero (a b : Nat) (ha : a < 256) (hb : b < 256) : mulN a b = 0 ↔ a = 0 ∨ b = 0 := by
  by_cases h1 : a = 0
  · subst h1; simp [mul_zero_left]
  by_cases h2 : b = 0
  · subst h2; simp [mul_zero_right]
  have := pw_pos' (lg a + lg b)
  rw [mul_lg a b ha hb (by omega) (by omega)]
  omega
theorem mul_assoc' (a b c : Nat) (ha : a < 256) (hb : b < 256) (hc : c < 256) : mulN (mulN a b) c = mulN a (mulN b c) := by
  by_cases h1 : a = 0
  · subst h1; simp [mul_zero_left]
  by_cases h2 : b = 0
  · subst h2; simp [mul_zero_left, mul_zero_right]
  by_cases h3 : c = 0
  · subst h3; simp [mul_zero_right]
  rw [mul_lg a b ha hb (by omega) (by omega), mul_lg b c hb hc (by omega) (by omega)]
  have ea := pw_lg a ha (by omega)
  have ec := pw_lg c hc (by omega)
  have h4 := mul_pw_pw (lg a + lg b) (lg c)
  have h5 := mul_pw_pw (lg a) (lg b + lg c)
  rw [ec] at h4
  rw [ea] at h5
  rw [h4, h5, Nat.add_assoc]
theorem mul_xor_right (a b c : Nat) (ha : a < 256) (hb : b < 256) (hc : c < 256) : mulN a (b ^^^ c) = mulN a b ^^^ mulN a c := by
  rw [mul_comm' _ _ ha (xor_lt hb hc), mul_xor_left _ _ _ hb hc, mul_comm' b a hb ha, mul_comm' c a hc ha]
theorem mul_one_right (a : Nat) (ha : a < 256) : mulN a 1 = a := by rw [mul_comm' a 1 ha (by decide), mul_one_left a ha]
/-- The inverse, as the tables give it. -/
def invN (a : Nat) : Nat := if a = 0 then 0 else pw ((255 - lg a) % 255)
theorem invN_lt (a : Nat) : invN a < 256 := by unfold invN; split; decide; exact pw_lt _
theorem mul_inv (a : Nat) (ha : a < 256) (h1 : 1 ≤ a) : mulN a (invN a) = 1 := by
  have h := mul_pw_pw (lg a) ((255 - lg a) % 255)
  rw [pw_lg a ha h1] at h
  unfold invN
  rw [if_neg (by omega), h]
  have := lg_lt a ha h1
  by_cases e : lg a = 0
  · rw [e]; rfl
  · rw [Nat.mod_eq_of_lt (by omega : 255 - lg a < 255), show lg a + (255 - lg a) = 255 by omega, pw_255]
theorem inv_unique (a b : Nat) (ha : a < 256) (hb : b < 256) (h : mulN a b = 1) : b = invN a := by
  have h1 : a ≠ 0 := fun e => by subst e; rw [mul_zero_left] at h; omega
  have h2 := mul_inv a ha (by omega)
  have h3 := mul_assoc' (invN a) a b (invN_lt a) ha hb
  rw [mul_comm' (invN a) a (invN_lt a) ha, h2, mul_one_left b hb, h, mul_one_right _ (invN_lt a)] at h3
  exact h3
/-! ### For the document's own answers -/
theorem xt_hi (x : Nat) (hx : x < 256) (h : 128 ≤ x) : (x * 2 % 256) ^^^ 27 = xt x := by
  have e : x / 128 = 1 := by omega
  simp [xt, e]
theorem xt_lo (x : Nat) (h : x < 128) : x * 2 % 256 = xt x := by
  have e : x / 128 = 0 := by omega
  simp [xt, e]
theorem mulTo_one (a b k : Nat) (h : b / 2 ^ k % 2 = 1) : mulTo a b k ^^^ xtn k a = mulTo a b (k + 1) := by rw [mulTo, h, Nat.mul_one]
theorem mulTo_none (a b k : Nat) (h : b / 2 ^ k % 2 = 0) : mulTo a b k = mulTo a b (k + 1) := by rw [mulTo, h, Nat.mul_zero, Nat.xor_zero]
theorem invN_pos (a : Nat) (h1 : 1 ≤ a) : 1 ≤ invN a := by unfold invN; rw [if_neg (by omega)]; exact pw_pos' _
/-- ErrArg of 0, else none. -/
def err0 (a : Nat) : Int := if a = 0 then 1 else 0
end Go.Proofs.YtgelalbmhllccaaGreat
/- The contract of the document's own product; sums and products whose answer has a name. -/
namespace Go.Proofs.YtgelalbmhllccaaGreat
open Go.RowKit

theorem xt_hi_int (x : Nat) (hx : x < 256) (h : 128 ≤ x) : bits .xor .u8 ((x : Int) * 2 % 256) 27 = ((xt x : Nat) : Int) := by
  have e := u8_xor_nat (x * 2 % 256) 27 (by omega) (by decide)
  rw [xt_hi x hx h] at e
  rw [← e]; simp
theorem xt_lo_int (x : Nat) (h : x < 128) : (x : Int) * 2 = ((xt x : Nat) : Int) := by
  rw [← xt_lo x h]; omega

set_option maxRecDepth 100000 in
set_option maxHeartbeats 400000 in
theorem rmul_any (a b : Nat) (ha : a < 256) (hb : b < 256) (w : World) :
    Calls Tryz.prog 130 #[.int .u8 a, .int .u8 b] w fun e w' => e = .returned (.int .u8 (mulN a b : Nat)) ∧ w = w' := by
  go_enter Tryz.func130, Tryz.ntmps130
  go_wp2
  go_loop [0, 1, 5, 6] (fun x y p i => ∃ k : Nat, k ≤ 8 ∧ i = .int .i64 k ∧ x = .int .u8 (xtn k a : Nat) ∧ y = .int .u8 (b / 2 ^ k : Nat) ∧ p = .int .u8 (mulTo a b k : Nat)) (fun _ _ _ i => 8 - (intOf i).toNat)
  case atStart => exact ⟨0, by omega, rfl, rfl, by simp, rfl⟩
  case round =>
    obtain ⟨k, hk, rfl, rfl, rfl, rfl⟩ := hrel
    by_cases hlt : k < 8
    · have hx := xtn_lt k ha
      have hp := mulTo_lt a b k ha
      have hy : b / 2 ^ k < 256 := Nat.lt_of_le_of_lt (Nat.div_le_self _ _) hb
      have hs : Hid (b / 2 ^ (k + 1) = b / 2 ^ k / 2) := by show _ = _; rw [Nat.pow_succ, Nat.div_div_eq_div_mul]
      have HX : Hid (xtn (k + 1) a = xt (xtn k a)) := rfl
      have HM : Hid (b / 2 ^ k % 2 = 1 → mulTo a b k ^^^ xtn k a = mulTo a b (k + 1)) := mulTo_one a b k
      have HN : Hid (b / 2 ^ k % 2 = 0 → mulTo a b k = mulTo a b (k + 1)) := mulTo_none a b k
      generalize xtn k a = x at *
      generalize b / 2 ^ k = y at *
      generalize mulTo a b k = p at *
      have HXO := Lib.hid (u8_xor_nat p x hp hx)
      by_cases h1 : y % 2 = 1
      · by_cases h2 : 128 ≤ x
        · have b1 : ((y : Int) % 2 == 1) = true := beq_iff_eq.2 (by omega)
          have hn : Hid (mulTo a b (k + 1) = p ^^^ x) := ((HM.out h1).symm)
          clear h1 HM HN
          go_wp2
          go_round
          case rel => exact ⟨k + 1, by omega, by go_num, by rw [HX.out, ← xt_hi_int x hx h2], by rw [hs.out]; rfl, by rw [hn.out, ← HXO.out]⟩
          case measure => simp [intOf]; omega
        · have b1 : ((y : Int) % 2 == 1) = true := beq_iff_eq.2 (by omega)
          have hn : Hid (mulTo a b (k + 1) = p ^^^ x) := ((HM.out h1).symm)
          clear h1 HM HN
          go_wp2
          go_round
          case rel => exact ⟨k + 1, by omega, by go_num, by rw [HX.out, ← xt_lo_int x (by omega)], by rw [hs.out]; rfl, by rw [hn.out, ← HXO.out]⟩
          case measure => simp [intOf]; omega
      · by_cases h2 : 128 ≤ x
        · have b1 : ((y : Int) % 2 == 1) = false := beq_eq_false_iff_ne.2 (by omega)
          have hn : Hid (mulTo a b (k + 1) = p) := ((HN.out (by omega)).symm)
          clear h1 HM HN
          go_wp2
          go_round
          case rel => exact ⟨k + 1, by omega, by go_num, by rw [HX.out, ← xt_hi_int x hx h2], by rw [hs.out]; rfl, by rw [hn.out]⟩
          case measure => simp [intOf]; omega
        · have b1 : ((y : Int) % 2 == 1) = false := beq_eq_false_iff_ne.2 (by omega)
          have hn : Hid (mulTo a b (k + 1) = p) := ((HN.out (by omega)).symm)
          clear h1 HM HN
          go_wp2
          go_round
          case rel => exact ⟨k + 1, by omega, by go_num, by rw [HX.out, ← xt_lo_int x (by omega)], by rw [hs.out]; rfl, by rw [hn.out]⟩
          case measure => simp [intOf]; omega
    · obtain rfl : k = 8 := by omega
      go_wp2
      go_ret
      exact ⟨rfl, rfl⟩
theorem rmul_eq (a b v : Nat) (ha : a < 256) (hb : b < 256) (h : mulN a b = v) (w : World) :
    Calls Tryz.prog 130 #[.int .u8 a, .int .u8 b] w fun e w' => e = .returned (.int .u8 (v : Int)) ∧ w = w' := by
  subst h; exact rmul_any a b ha hb w
end Go.Proofs.YtgelalbmhllccaaGreat
