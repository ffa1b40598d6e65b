/- The landed pad: a chunk more. -/
import Derived.Test.YtgelalbmhllccaaQaj
import Derived.Test.YtgelalbmhllccaaQab
import Derived.Deep.LoopGhost
import Derived.Laws.EntriesVeiled
import Derived.Test.YtgelalbmhllccaaQaa
import Derived.Test.YtgelalbmhllccaaQai
import Derived.Deep.DeepCutAuto
import Derived.Deep.CutBlock
import Derived.Stop.RegionWithIn
import Derived.Test.YtgelalbmhllccaaQad
import Derived.RangeFuncBox
import Derived.OwnWalk
namespace Go.Proofs.Ytgelalbmhllccaa
open Go.RowKit
set_option linter.unusedVariables false
set_option linter.unusedSimpArgs false
/-- A variable of its own. -/
def Var1 (w : World) (g : Nat) (v : Value) (t : TypeId) : Prop := w.heap[g]? = some (.cells #[v] t (0, 0))
namespace Var1
variable {w w' : World} {g : Nat} {v : Value} {t : TypeId}
theorem cell (h : Var1 w g v t) : w.cell? ⟨g, 0, none⟩ = some v := cell_of_one h
theorem free (h : Var1 w g v t) : w.frozen? ⟨g, 0, none⟩ = false := free_of_one h
theorem put {u : Value} (h : Var1 w g v t) : Var1 (w.setCell ⟨g, 0, none⟩ u) g u t := one_setCell h
theorem lt (h : Var1 w g v t) : g < w.heap.size := lt_of_block h
theorem turned {F : Nat → Prop} (h : Var1 w g v t) (k : Turned F w w') (hn : ¬ F g) : Var1 w' g v t := (k.block g (lt_of_block h) hn).trans h
end Var1
/-- The places of Chunks' own variables. -/
structure ChK (w : World) (B1 B2 B3 gC b base N cN : Nat) : Prop where
  o1 : w.heap.size ≤ B1
  o2 : B1 < gC
  o3 : gC < B2
  o4 : B2 < B3
  o5 : B3 < base
  ob : 0 < N → B1 < b ∧ b < gC
  oc : N ≤ cN ∧ N ≤ 100000
/-- The chunks so far. -/
structure ChR (wr : World) (base b N : Nat) (A : Option Addr) (k c : Nat) (rs : List RowV) : Prop where
  own : OwnRows wr base 37 A k c rs
  lie : ∀ r ∈ rs, LiesIn wr (fun x => x = b ∧ 0 < N) r
section
variable {w wr w' : World} {B1 B2 B3 gC b base N cN at_ cp k c : Nat} {ys : List Nat} {A : Option Addr} {rs : List RowV} {F : Nat → Prop}
theorem ChR.turned (h : ChR wr base b N A k c rs) (t : Turned F wr w') (no : ∀ x, (Value.slice A k c).ownBlock = some x → ¬ F x) (nb : 0 < N → ¬ F b) : ChR w' base b N A k c rs :=
  ⟨OwnRows.turned h.own t no, fun r hr => (h.lie r hr).turned t fun x hx => by rw [hx.1]; exact nb hx.2⟩
end
end Go.Proofs.Ytgelalbmhllccaa
/- The landed pad: Chunks. -/
namespace Go.Proofs.Ytgelalbmhllccaa
open Go.RowKit
set_option linter.unusedVariables false
set_option linter.unusedSimpArgs false
/-- What Chunks hands back: rows of its own, and what is open. -/
def NewCh (w : World) (M : List (List Nat)) (O : List Nat) (er : Int) (e : Ending) (w' : World) : Prop :=
  ∃ A n c A' n' c' rs, e = .returned (.tuple #[.slice A n c, .slice A' n' c', .int .i64 er]) ∧ Laying w w' A n c rs ∧ rowsXs rs = M ∧ LiesIn w' (fun b => w.heap.size ≤ b ∧ b < w'.heap.size) ⟨A', n', c', O⟩ ∧ Keep w w'
theorem NewCh.nil {w w' : World} (k : Keep w w') (er : Int) : NewCh w [] [] er (.returned (.tuple #[.slice none 0 0, .slice none 0 0, .int .i64 er])) w' :=
  ⟨none, 0, 0, none, 0, 0, [], rfl, (Laying.nothing w).later k, rfl, LiesIn.nothing _ _, k⟩
end Go.Proofs.Ytgelalbmhllccaa
/- Layer 9's statements: sizes brought into 1 to 40. -/
namespace Go.Proofs.Ytgelalbmhllccaa
open Go.RowKit
set_option linter.unusedVariables false
set_option linter.unusedSimpArgs false
end Go.Proofs.Ytgelalbmhllccaa
/- The contracts of layer 9 for any sizes. -/
namespace Go.Proofs.Ytgelalbmhllccaa
open Go.RowKit
set_option linter.unusedVariables false
set_option linter.unusedSimpArgs false
def roomV (g s : Int) : Int := if MayG g s then g * s - 4 else 0
def roomE (g s : Int) : Int := if MayG g s then 0 else 1
theorem proom_any (g s : Int) (w : World) : Calls Try.prog 15 #[.int .i64 g, .int .i64 s] w fun e w' => e = .returned (.tuple #[.int .i64 (roomV g s), .int .i64 (roomE g s)]) ∧ w = w' := by
  by_cases h : MayG g s
  · rw [roomV, roomE, if_pos h, if_pos h]
    obtain ⟨G, S, P, rfl, rfl, a1, a2, a3, a4, a5, a6, a7, a8⟩ := h.nat
    have := proom_in G S P a1 a2 a3 a4 a8 a6 a7 w
    rwa [a8, show (P : Int) - 4 = ((P - 4 : Nat) : Int) by omega]
  · rw [roomV, roomE, if_neg h, if_neg h]
    exact proom_out g s h w
/-- Rows whose first bytes may be turned. -/
def TurnAt (w : World) (base : Nat) (A : Option Addr) (n : Nat) : Prop :=
  n = 0 ∨ ∃ gr b S c P ys, A = some ⟨gr, 0, none⟩ ∧ base ≤ gr ∧ gr < w.heap.size ∧ base ≤ b ∧ b ≠ gr ∧ 1 ≤ S ∧ (∀ k, k < n → k * S < P) ∧ (∀ k, k < n → w.cell? ⟨gr, k, none⟩ = some (.slice (some ⟨b, k * S, none⟩) S S)) ∧ Own w base 5 (some ⟨b, 0, none⟩) P c ys
def NewLay (w : World) (M : List (List Nat)) (er : Int) (e : Ending) (w' : World) : Prop :=
  ∃ A n c, e = .returned (.tuple #[.slice A n c, .int .i64 er]) ∧ (∃ rs, RowsIn w' (fun b => w.heap.size ≤ b ∧ b < w'.heap.size) A n rs ∧ n ≤ c ∧ rowsXs rs = M) ∧ TurnAt w' w.heap.size A n ∧ n ≤ 255 ∧ Keep w w'
theorem NewLay.nil (w : World) (er : Int) : NewLay w [] er (.returned (.tuple #[.slice none 0 0, .int .i64 er])) w := ⟨none, 0, 0, rfl, ⟨[], RowsIn.nothing _ _ _, Nat.le_refl _, rfl⟩, Or.inl rfl, by omega, Keep.refl w⟩
theorem LaidAt.rows {w : World} {base gr b c G S P : Nat} {ys : List Nat} (h : LaidAt w base gr b c G S P ys) (hP : G * S = P) : RowsIn w (fun x => base ≤ x ∧ x < w.heap.size) (some ⟨gr, 0, none⟩) G (rsL b S ys G) := by
  refine RowsIn.of_own h.1 (fun r hr => ?_) fun x hx => ⟨h.1.rowLe x hx, (h.1.lt x hx).2⟩
  obtain ⟨i, hi, rfl⟩ := List.mem_map.1 hr
  have hi := List.mem_range.1 hi
  have hle : (i + 1) * S ≤ G * S := Nat.mul_le_mul_right S hi
  rw [Nat.add_mul, Nat.one_mul] at hle
  have hyl : ys.length = P := h.2.length
  refine ⟨?_, fun x hx => h.2.2 x (List.mem_of_mem_drop (List.mem_of_mem_take hx)), Nat.le_refl _, fun hp => ⟨b, i * S, rfl, ?_, fun j hj => ?_⟩⟩
  · show (cutN S i ys).length = S
    rw [cutN, List.length_take, List.length_drop]; omega
  · have hp : 0 < S := hp
    obtain ⟨b2, e, e2, e3⟩ := h.2.block (by omega)
    injection e with e; injection e with e
    subst e
    exact ⟨e2, e3⟩
  · have hj : j < S := hj
    rw [h.2.cell (i := i * S + j) (by omega)]
    show _ = some (Value.int .u8 (((cutN S i ys).getD j 0 : Nat) : Int))
    rw [cutN, List.getD_eq_getElem?_getD, List.getD_eq_getElem?_getD, List.getElem?_take, if_pos hj, List.getElem?_drop]
def tkE (g s : Int) (R : List (List Nat)) : Int := if ¬ MayG g s then 1 else takeE g.toNat s.toNat R
def tkV (g s : Int) (R : List (List Nat)) : List Nat := if ¬ MayG g s then [] else takeV g.toNat s.toNat R
theorem take_dim {G S : Nat} {R : List (List Nat)} (h : R.length ≠ G) : takeE G S R = 21 ∧ takeV G S R = [] := by
  have e : takeE G S R = 21 := by rw [takeE, if_pos fun hk => h hk.1]
  exact ⟨e, by rw [takeV, e, if_neg (by decide)]⟩
theorem ptake_any (g s : Int) (A : Option Addr) (n c : Nat) (rs : List RowV) (w : World) (h : RowsAt w w.heap.size A n rs) : Calls Try.prog 29 #[.slice A n c, .int .i64 g, .int .i64 s] w (NewPair w (tkV g s (rowsOf rs)) (tkE g s (rowsOf rs))) := by
  by_cases hm : MayG g s
  · rw [tkE, tkV, if_neg (not_not_intro hm), if_neg (not_not_intro hm)]
    obtain ⟨G, S, P, rfl, rfl, a1, a2, a3, a4, a5, a6, a7, a8⟩ := hm.nat
    rw [Int.toNat_natCast, Int.toNat_natCast]
    by_cases hn : n = G
    · subst hn; exact ptake_in n S P a1 a2 a3 a4 a8 a6 a7 A c rs w h
    · have := take_dim (G := G) (S := S) (R := rowsOf rs) (by rw [rowsOf, List.length_map, h.1]; exact hn)
      rw [this.1, this.2]
      exact ptake_dim G S P n a1 a2 a3 a4 a8 a6 a7 hn A c w
  · rw [tkE, tkV, if_pos hm, if_pos hm]
    exact ptake_out g s hm A n c w
/-- What Chunks tells, of a stream and its cuts. -/
def ToldC (g s : Int) (n : Nat) (xs : List Nat) (l : List Int) (M : List (List Nat)) (O : List Nat) (er : Int) : Prop :=
  ((¬ MayG g s ∨ ¬ GoodC n l l.length) ∧ M = [] ∧ O = [] ∧ er = 1) ∨
  (∃ (G S P : Nat) (cs : List Nat), g = G ∧ s = S ∧ 5 ≤ P ∧ P ≤ 16711425 ∧ g * s = (P : Int) ∧ MayG g s ∧ l = cs.map (fun x : Nat => (x : Int)) ∧ (∀ x ∈ cs, x ≤ n) ∧ (∀ (i j x y : Nat), i ≤ j → cs[i]? = some x → cs[j]? = some y → x ≤ y) ∧ M = (chunkN (P - 4) cs xs (n + 1)).1 ∧ O = xs.drop (chunkN (P - 4) cs xs (n + 1)).2 ∧ er = 0)
theorem ToldC.len {g s : Int} {n : Nat} {xs : List Nat} {l : List Int} {M : List (List Nat)} {O : List Nat} {er : Int} (h : ToldC g s n xs l M O er) : M.length ≤ n + 1 := by
  rcases h with ⟨_, rfl, _, _⟩ | ⟨G, S, P, cs, _, _, _, _, _, _, _, _, _, rfl, _, _⟩
  · simp
  · exact chunk_count _
end Go.Proofs.Ytgelalbmhllccaa
/- The landed sink: how it lies, its small calls, its iterator. -/
namespace Go.Proofs.Ytgelalbmhllccaa
open Go.RowKit Lin
set_option linter.unusedVariables false
set_option linter.unusedSimpArgs false
attribute [local go_sem] Oper.semAt_some
/-- It lies at q. -/
structure SnkR (w : World) (q : Nat) (g s : Int) (got of : Nat) (kn br : Bool) : Prop where
  block : w.heap[q]? = some (.cells #[.int .i64 g, .int .i64 s, .int .u64 (got : Int), .int .u64 (of : Int), .bool kn, .bool br] 47 (0, 0))
  may : MayG g s
  top : got ≤ topN
namespace SnkR
variable {w w' : World} {q got of : Nat} {g s : Int} {kn br : Bool} {G : Nat → Prop}
theorem lt (h : SnkR w q g s got of kn br) : q < w.heap.size := (Array.getElem?_eq_some_iff.1 h.block).1
theorem turned (h : SnkR w q g s got of kn br) (t : Turned G w w') (hn : ¬ G q) : SnkR w' q g s got of kn br := ⟨(t.block q h.lt hn).trans h.block, h.may, h.top⟩
theorem keep (h : SnkR w q g s got of kn br) (k : Keep w w') : SnkR w' q g s got of kn br := ⟨(k.block q h.lt).trans h.block, h.may, h.top⟩
theorem c0 (h : SnkR w q g s got of kn br) : w.cell? ⟨q, 0, none⟩ = some (.int .i64 g) := cell_of_row _ _ _ _ _ _ h.block
theorem c1 (h : SnkR w q g s got of kn br) : w.cell? ⟨q, 1, none⟩ = some (.int .i64 s) := cell_of_row _ _ _ _ _ _ h.block
theorem c2 (h : SnkR w q g s got of kn br) : w.cell? ⟨q, 2, none⟩ = some (.int .u64 (got : Int)) := cell_of_row _ _ _ _ _ _ h.block
theorem c3 (h : SnkR w q g s got of kn br) : w.cell? ⟨q, 3, none⟩ = some (.int .u64 (of : Int)) := cell_of_row _ _ _ _ _ _ h.block
theorem c4 (h : SnkR w q g s got of kn br) : w.cell? ⟨q, 4, none⟩ = some (.bool kn) := cell_of_row _ _ _ _ _ _ h.block
theorem c5 (h : SnkR w q g s got of kn br) : w.cell? ⟨q, 5, none⟩ = some (.bool br) := cell_of_row _ _ _ _ _ _ h.block
theorem free (h : SnkR w q g s got of kn br) (i : Nat) : w.frozen? ⟨q, i, none⟩ = false := by simp [World.frozen?, h.block]
theorem setGot (h : SnkR w q g s got of kn br) {n : Nat} (hn : n ≤ topN) : SnkR (w.setCell ⟨q, 2, none⟩ (.int .u64 (n : Int))) q g s n of kn br := ⟨by rw [bset h.block]; rfl, h.may, hn⟩
theorem setOf (h : SnkR w q g s got of kn br) (n : Nat) : SnkR (w.setCell ⟨q, 3, none⟩ (.int .u64 (n : Int))) q g s got n kn br := ⟨by rw [bset h.block]; rfl, h.may, h.top⟩
theorem setKn (h : SnkR w q g s got of kn br) (b : Bool) : SnkR (w.setCell ⟨q, 4, none⟩ (.bool b)) q g s got of b br := ⟨by rw [bset h.block]; rfl, h.may, h.top⟩
theorem setBr (h : SnkR w q g s got of kn br) (b : Bool) : SnkR (w.setCell ⟨q, 5, none⟩ (.bool b)) q g s got of kn b := ⟨by rw [bset h.block]; rfl, h.may, h.top⟩
end SnkR
/-- What is handed on: of generation n the chunk, or an error. -/
structure ChV where
  n : Nat
  A : Option Addr
  r : Nat
  c : Nat
  xs : List Nat
  e : Int
section
variable {F : Nat → Prop} {p q g s k b of : Nat} {L : Nat → List (List Nat)} {kn : Bool}
/-- Both, and the boxes of what the closure has captured. -/
structure SnkB (W : World) (F : Nat → Prop) (p q g s k b of : Nat) (L : Nat → List (List Nat)) (kn : Bool) (Bk Bb n : Nat) : Prop where
  sk : SnkR W q (g : Int) (s : Int) n of kn false
  y : RelR W F p g s k b L
  bk : Boxed W Bk 23 (.pointer (some ⟨q, 0, none⟩))
  bb : Boxed W Bb 28 (.pointer (some ⟨p, 0, none⟩))
theorem KeepsFrom.of_keep {B : Nat} {W W' : World} (t : Keep W W') : KeepsFrom B W W' := ⟨t.size, fun i o _ h _ => (t.block i (Array.getElem?_eq_some_iff.1 h).1).trans h⟩
theorem SnkB.keep {W W' : World} {Bk Bb n : Nat} (h : SnkB W F p q g s k b of L kn Bk Bb n) (t : Keep W W') : SnkB W' F p q g s k b of L kn Bk Bb n :=
  ⟨h.sk.keep t, h.y.keep t, (t.block Bk (Array.getElem?_eq_some_iff.1 h.bk).1).trans h.bk, (t.block Bb (Array.getElem?_eq_some_iff.1 h.bb).1).trans h.bb⟩
/-- Take of what was solved. -/
theorem take_solved {w w5 : World} {A4 : Option Addr} {n4 c4 n : Nat} {rt : List RowV} (hMG : MayG (g : Int) (s : Int)) (hl : ∀ x ∈ L n, x.length = g + s) (o4 : OwnRows w5 w.heap.size 37 A4 n4 c4 rt) (l4 : ∀ x ∈ rt, Own w5 w.heap.size 5 x.A x.n x.c x.xs) (ex : rowsXs rt = symN g (L n)) (w6 : World) (k6 : Keep w5 w6) :
    Calls Try.prog 29 #[.slice A4 n4 c4, .int .i64 (g : Int), .int .i64 (s : Int)] w6 (NewPair w6 (takeV g s (symN g (L n))) (takeE g s (symN g (L n)))) := by
  have hlen : ∀ r ∈ rt, r.n ≤ 140737488351232 := fun r hr => by
    have h1 : r.xs ∈ symN g (L n) := by rw [← ex]; exact List.mem_map.2 ⟨r, hr, rfl⟩
    obtain ⟨x, hx, e⟩ := List.mem_map.1 h1
    have h2 := (l4 r hr).lies.1
    simp only at h2
    rw [← e, List.length_drop, hl x hx] at h2
    have := hMG.2.2.2.1
    omega
  have hra := RowsIn.of_own (F := fun x => x < w5.heap.size) o4 (fun r hr => (l4 r hr).lies.mono fun x e => ((l4 r hr).1.lt x e).2) fun x e => (o4.lt x e).2
  have h := ptake_any (g : Int) (s : Int) A4 n4 c4 rt w6 ((hra.turned (Turned.of_keep (F := fun _ => False) k6) fun _ _ e => e).rowsAt (B := w6.heap.size) (fun x e => Nat.lt_of_lt_of_le e k6.size) hlen)
  have e1 : tkE (g : Int) (s : Int) (rowsOf rt) = takeE g s (symN g (L n)) := by rw [tkE, if_neg (not_not_intro hMG), ← ex]; rfl
  have e2 : tkV (g : Int) (s : Int) (rowsOf rt) = takeV g s (symN g (L n)) := by rw [tkV, if_neg (not_not_intro hMG), ← ex]; rfl
  rw [e1, e2] at h
  exact h
end
end Go.Proofs.Ytgelalbmhllccaa
/- The landed sink: what its Release keeps on the way, and what it tells. -/
namespace Go.Proofs.Ytgelalbmhllccaa
open Go.RowKit Lin
set_option linter.unusedVariables false
set_option linter.unusedSimpArgs false
theorem ownblock_cells {w : World} {base size n x : Nat} {e : TypeId} {v : Value} {xs : List Value} (h : w.ownsRow base e size v n xs) (hx : v.ownBlock = some x) : base ≤ x ∧ ∃ cur, w.heap[x]? = some (.cells cur e (0, 0)) := by
  rcases h.2 with ⟨rfl, _⟩ | ⟨g, cap, cur, rfl, hb, hg, _⟩
  · simp [Value.ownBlock] at hx
  · simp only [Value.ownBlock, Option.some.injEq] at hx
    subst hx
    exact ⟨hb, cur, hg⟩
theorem turned_putObj (W : World) (k : Nat) (o : Obj) : Turned (fun a => a = k) W (W.putObj k o) := ⟨rfl, rfl, rfl, by simp, fun i hi hn => World.putObj_heap_other hn⟩
theorem ne_of_cells {W : World} {k x : Nat} {o : Obj} {cs : Array Value} {t : TypeId} {fr : Nat × Nat} (hb : W.heap[k]? = some o) (hc : o.isCells = false) (hx : W.heap[x]? = some (.cells cs t fr)) : x ≠ k := fun e => by
  subst e
  rw [hb] at hx
  injection hx with hx
  subst hx
  simp [Obj.isCells] at hc
theorem boxed_later {W W' : World} {B : Nat} {t : TypeId} {u : Value} {G : Nat → Prop} (h : Boxed W B t u) (k : Turned G W W') (hn : ¬ G B) : Boxed W' B t u := (k.block B (Array.getElem?_eq_some_iff.1 h).1 hn).trans h
theorem boxed_put {W : World} {B : Nat} {t : TypeId} {u : Value} (h : Boxed W B t u) (v : Value) : Boxed (W.setCell ⟨B, 0, none⟩ v) B t v := by
  unfold Boxed; rw [bset h]; rfl
theorem keepsFrom_turned {W W' : World} {G : Nat → Prop} (t : Turned G W W') (B : Nat) (hG : ∀ a, G a → ∃ cs t fr, W.heap[a]? = some (.cells cs t fr)) : KeepsFrom B W W' :=
  ⟨t.size, fun i o _ h hc => (t.block i (Array.getElem?_eq_some_iff.1 h).1 fun hg => by
    obtain ⟨cs, ty, fr, e⟩ := hG i hg
    rw [h] at e
    injection e with e
    subst e
    simp [Obj.isCells] at hc).trans h⟩
/-- A row appended, inside a fence. -/
theorem wpListIn_append_row {Fe : Fence} {nF : Nat} {P : Program} {w : World} {ops : Array Oper} {rest : List Oper} {o : Oper} {a : Act} {Q : Exit → Act → World → Prop} (hgd : o.guard = none) (s x : Operand) (t : TypeId)
    (ho : o.op = .call { callee := .builtin .append, args := #[s, x], argTypes := #[t, t] }) {base n c cx e : Nat} {A : Option Addr} {rs : List RowV} {ad : Addr} (r : RowV) (ht : P.underlying t = some (.slice e))
    (hi : (P.info? e).map (fun i => (i.zero, i.size, i.bytes)) = some (some (.slice none 0 0), 1, 24)) (hs : a.eval s = .slice A n c) (hown : OwnRows w base e A n c rs) (hx0 : a.eval x = .slice (some ad) 1 cx) (hx : w.cell? ad = some r.val) (hlen : n ≤ 1000000) (hbase : base ≤ w.heap.size)
    (h : ∀ A2 c2 w', OwnRows w' base e A2 (n + 1) c2 (rs ++ [r]) → w.grownBy w' (Value.slice A n c).ownBlock → wpListIn Fe nF P ops Q rest (a.put o.dst (.slice A2 (n + 1) c2)) w') : wpListIn Fe nF P ops Q (o :: rest) a w := by
  obtain ⟨i0, hi0, hz0, hz1, hz2⟩ := info_parts hi
  refine wpListIn_append_own w hgd s x t ho base e i0 (.slice none 0 0) 1 24 ht hi0 hz0 hz1 hz2 rfl (by decide) _ n (rs.map RowV.val) hs hown ad 1 cx [r.val] hx0 rfl (fun j u hu => ?_) (fun u hu => by simp at hu; subst hu; rfl) (by unfold maxLen; omega) (by omega) hbase fun v' w' h2 h3 _ => ?_
  · match j, hu with
    | 0, hu =>
      simp at hu
      subst hu
      have ha : ad.add 0 = ad := by unfold Addr.add; split <;> simp_all
      rw [ha]; exact hx
  · obtain ⟨g', cap', rfl⟩ := ownsRow_succ h2
    exact h _ _ w' (by rw [OwnRows, List.map_append]; exact h2) h3
/-- On the way: the chunks so far, the sink, the relay and the boxes. -/
structure LI (w W : World) (F : Nat → Prop) (p q g s k b : Nat) (L : Nat → List (List Nat)) (got of : Nat) (kn : Bool) (A : Option Addr) (n c : Nat) (rs : List RowV) (got' : Nat) : Prop where
  sk : SnkR W q (g : Int) (s : Int) got' of kn false
  y : RelR W F p g s k b L
  fl : ∀ a, F a → a < w.heap.size
  nq : ¬ F q
  ql : q < w.heap.size
  rel : RelI g s k b L got (rowsXs rs) got'
  own : OwnRows W (w.heap.size + 6) 37 A n c rs
  rows : ∀ r ∈ rs, Own W (w.heap.size + 6) 5 r.A r.n r.c r.xs
  t : Turned (fun a => a = q) w W
  b0 : Boxed W w.heap.size 23 (.pointer (some ⟨q, 0, none⟩))
  b1 : Boxed W (w.heap.size + 1) 31 (.slice none 0 0)
  b2 : Boxed W (w.heap.size + 2) 24 (.int .i64 0)
  b3 : Boxed W (w.heap.size + 3) 31 (.slice A n c)
  bk : Boxed W (w.heap.size + 4) 23 (.pointer (some ⟨q, 0, none⟩))
  bb : Boxed W (w.heap.size + 5) 28 (.pointer (some ⟨p, 0, none⟩))
  sz : w.heap.size + 6 ≤ W.heap.size
/-- At the end: what is told stands in the results' boxes. -/
structure LT (w W : World) (F : Nat → Prop) (p q g s k b : Nat) (L : Nat → List (List Nat)) (got of : Nat) (kn : Bool) (A : Option Addr) (n c : Nat) (rs : List RowV) (got' : Nat) (br : Bool) : Prop where
  sk : SnkR W q (g : Int) (s : Int) got' of kn br
  y : RelR W F p g s k b L
  fl : ∀ a, F a → a < w.heap.size
  ql : q < w.heap.size
  rel : RelT g s k b L got (rowsXs rs) got' br
  own : OwnRows W (w.heap.size + 6) 37 A n c rs
  rows : ∀ r ∈ rs, Own W (w.heap.size + 6) 5 r.A r.n r.c r.xs
  t : Turned (fun a => a = q) w W
  b1 : Boxed W (w.heap.size + 1) 31 (.slice A n c)
  b2 : Boxed W (w.heap.size + 2) 24 (.int .i64 (if br then 5 else 0))
namespace LI
variable {w W W' : World} {F G : Nat → Prop} {p q g s k b got of n c got' : Nat} {L : Nat → List (List Nat)} {kn : Bool} {A : Option Addr} {rs : List RowV}
/-- What turns lies elsewhere. -/
theorem turned (h : LI w W F p q g s k b L got of kn A n c rs got') (t : Turned G W W') (h0 : ∀ a, a < w.heap.size + 6 → ¬ G a) (h1 : ∀ x, (Value.slice A n c).ownBlock = some x → ¬ G x) (h2 : ∀ r ∈ rs, ∀ x, (Value.slice r.A r.n r.c).ownBlock = some x → ¬ G x) : LI w W' F p q g s k b L got of kn A n c rs got' :=
  have hq := h.ql
  ⟨h.sk.turned t (h0 q (by omega)), h.y.turned t fun a ha => h0 a (by have := h.fl a ha; omega), h.fl, h.nq, h.ql, h.rel, OwnRows.turned h.own t h1, fun r hr => (h.rows r hr).turned t (h2 r hr), h.t.trans t fun j e => Or.inr (by rcases Nat.lt_or_ge j (w.heap.size + 6) with e2 | e2; exact absurd e (h0 j e2); omega),
    boxed_later h.b0 t (h0 _ (by omega)), boxed_later h.b1 t (h0 _ (by omega)), boxed_later h.b2 t (h0 _ (by omega)), boxed_later h.b3 t (h0 _ (by omega)), boxed_later h.bk t (h0 _ (by omega)), boxed_later h.bb t (h0 _ (by omega)), Nat.le_trans h.sz t.size⟩
theorem keep (h : LI w W F p q g s k b L got of kn A n c rs got') (t : Keep W W') : LI w W' F p q g s k b L got of kn A n c rs got' :=
  h.turned (Turned.of_keep (F := fun _ => False) t) (fun _ _ e => e) (fun _ _ e => e) fun _ _ _ _ e => e
theorem abide {m : Nat} {o o' : Obj} (h : LI w W F p q g s k b L got of kn A n c rs got') (hm : w.heap.size + 6 ≤ m) (hb : W.heap[m]? = some o) (hc : o.isCells = false) : LI w (W.putObj m o') F p q g s k b L got of kn A n c rs got' :=
  h.turned (turned_putObj W m o') (fun a ha e => by omega) (fun x e => by
    obtain ⟨-, cur, h2⟩ := ownblock_cells h.own e
    exact ne_of_cells hb hc h2) fun r hr x e => by
    obtain ⟨-, cur, h2⟩ := ownblock_cells (h.rows r hr).1 e
    exact ne_of_cells hb hc h2
theorem box (h : LI w W F p q g s k b L got of kn A n c rs got') : SnkB W F p q g s k b of L kn (w.heap.size + 4) (w.heap.size + 5) got' := ⟨h.sk, h.y, h.bk, h.bb⟩
/-- A chunk more. -/
theorem more {A2 : Option Addr} {c2 : Nat} {r : RowV} {w9 : World} (h : LI w W F p q g s k b L got of kn A n c rs got') (h1 : rdyN g k b L got') (h2 : takeE g s (symN g (L got')) = 0) (hx : r.xs = takeV g s (symN g (L got'))) (hr : Own W (w.heap.size + 6) 5 r.A r.n r.c r.xs)
    (ho : OwnRows w9 (w.heap.size + 6) 37 A2 (n + 1) c2 (rs ++ [r])) (kb : Turned (fun a => (Value.slice A n c).ownBlock = some a) W w9) :
    LI w ((w9.setCell ⟨w.heap.size + 3, 0, none⟩ (.slice A2 (n + 1) c2)).setCell ⟨q, 2, none⟩ (.int .u64 ((got' + 1 : Nat) : Int))) F p q g s k b L got of kn A2 (n + 1) c2 (rs ++ [r]) (got' + 1) := by
  have hq := h.ql
  have hsz := h.sz
  have X0 : ∀ x, (Value.slice A n c).ownBlock = some x → w.heap.size + 6 ≤ x := fun x e => (ownblock_cells h.own e).1
  have t1 : Turned (fun a => a = w.heap.size + 3) w9 (w9.setCell ⟨w.heap.size + 3, 0, none⟩ (.slice A2 (n + 1) c2)) := Turned.set (F := fun a => a = w.heap.size + 3) w9 ⟨w.heap.size + 3, 0, none⟩ _ rfl
  obtain ⟨wa, hwa⟩ : ∃ v, w9.setCell ⟨w.heap.size + 3, 0, none⟩ (.slice A2 (n + 1) c2) = v := ⟨_, rfl⟩
  have b3 : Boxed wa (w.heap.size + 3) 31 (.slice A2 (n + 1) c2) := by rw [← hwa]; exact boxed_put (boxed_later h.b3 kb fun e => by have := X0 _ e; omega) _
  rw [hwa] at t1 ⊢
  have t2 : Turned (fun a => a = q) wa (wa.setCell ⟨q, 2, none⟩ (.int .u64 ((got' + 1 : Nat) : Int))) := Turned.set (F := fun a => a = q) wa ⟨q, 2, none⟩ _ rfl
  have hrow : ∀ r' ∈ rs ++ [r], Own W (w.heap.size + 6) 5 r'.A r'.n r'.c r'.xs := fun r' hr' => by
    rcases List.mem_append.1 hr' with e | e
    · exact h.rows r' e
    · obtain rfl : r' = r := by simpa using e
      exact hr
  have K : Turned (fun a => (Value.slice A n c).ownBlock = some a ∨ a = w.heap.size + 3) W wa := (kb.mono fun i _ e => Or.inl e).trans (t1.mono fun i _ e => Or.inr e) fun i e => Or.inl e
  have bx : ∀ B t u, B < w.heap.size + 6 → B ≠ w.heap.size + 3 → B ≠ q → Boxed W B t u → Boxed (wa.setCell ⟨q, 2, none⟩ (.int .u64 ((got' + 1 : Nat) : Int))) B t u := fun B t u hB h3 hq hb =>
    boxed_later (boxed_later hb K (fun e => by rcases e with e | e; (have := X0 _ e; omega); exact h3 e)) t2 hq
  refine ⟨(h.sk.turned K fun e => ?_).setGot (by have := rdy_top h1; omega), (h.y.turned K fun a ha e => ?_).turned t2 fun a ha e => h.nq (e ▸ ha), h.fl, h.nq, h.ql, ?_, OwnRows.turned (OwnRows.turned ho t1 fun x e e2 => ?_) t2 fun x e e2 => ?_, fun r' hr' => ((hrow r' hr').turned K fun x e e2 => ?_).turned t2 fun x e e2 => ?_, ?_, bx _ _ _ (by omega) (by omega) (by omega) h.b0, bx _ _ _ (by omega) (by omega) (by omega) h.b1, bx _ _ _ (by omega) (by omega) (by omega) h.b2, boxed_later b3 t2 (by show ¬ (w.heap.size + 3 = q); omega), bx _ _ _ (by omega) (by omega) (by omega) h.bk, bx _ _ _ (by omega) (by omega) (by omega) h.bb, Nat.le_trans hsz (Nat.le_trans K.size t2.size)⟩
  · rcases e with e | e
    · have := X0 _ e; omega
    · omega
  · have := h.fl a ha
    rcases e with e | e
    · have := X0 _ e; omega
    · omega
  · have h3 := h.rel.more h1 h2
    rw [← hx] at h3
    have e : rowsXs (rs ++ [r]) = rowsXs rs ++ [r.xs] := by simp [rowsXs]
    rw [e]; exact h3
  · have := (ownblock_cells ho e).1; omega
  · have := (ownblock_cells ho e).1; omega
  · obtain ⟨h3, cur, h4⟩ := ownblock_cells (hrow r' hr').1 e
    rcases e2 with e2 | e2
    · obtain ⟨-, cur2, h5⟩ := ownblock_cells h.own e2
      rw [h4] at h5
      simp at h5
    · omega
  · have := (ownblock_cells (hrow r' hr').1 e).1; omega
  · refine (h.t.trans K fun j e => Or.inr ?_).trans t2 fun j e => Or.inl e
    rcases e with e | e
    · have := X0 _ e; omega
    · omega
/-- What the walk reads and writes behind an append. -/
theorem cells {w9 : World} (h : LI w W F p q g s k b L got of kn A n c rs got') (kb : Turned (fun a => (Value.slice A n c).ownBlock = some a) W w9) :
    w9.frozen? ⟨w.heap.size + 3, 0, none⟩ = false ∧ w9.cell? ⟨w.heap.size, 0, none⟩ = some (.pointer (some ⟨q, 0, none⟩)) ∧ w9.cell? ⟨q, 2, none⟩ = some (.int .u64 (got' : Int)) ∧ w9.frozen? ⟨q, 2, none⟩ = false ∧ ¬ q = w.heap.size + 3 ∧ ¬ w.heap.size + 3 = q ∧ w9.cell? ⟨w.heap.size + 3, 0, none⟩ = some (.slice A n c) := by
  have hq := h.ql
  have X0 : ∀ x, (Value.slice A n c).ownBlock = some x → w.heap.size + 6 ≤ x := fun x e => (ownblock_cells h.own e).1
  have s1 := h.sk.turned kb fun e => by have := X0 _ e; omega
  exact ⟨(boxed_later h.b3 kb fun e => by have := X0 _ e; omega).frozen, (boxed_later h.b0 kb fun e => by have := X0 _ e; omega).cell, s1.c2, s1.free 2, by omega, by omega, (boxed_later h.b3 kb fun e => by have := X0 _ e; omega).cell⟩
/-- What the round has turned are cells. -/
theorem kf {w9 : World} (h : LI w W F p q g s k b L got of kn A n c rs got') (kb : Turned (fun a => (Value.slice A n c).ownBlock = some a) W w9) (v u : Value) (B : Nat) : KeepsFrom B W ((w9.setCell ⟨w.heap.size + 3, 0, none⟩ v).setCell ⟨q, 2, none⟩ u) := by
  have t1 : Turned (fun a => a = w.heap.size + 3) w9 (w9.setCell ⟨w.heap.size + 3, 0, none⟩ v) := Turned.set (F := fun a => a = w.heap.size + 3) w9 ⟨w.heap.size + 3, 0, none⟩ _ rfl
  have t2 : Turned (fun a => a = q) (w9.setCell ⟨w.heap.size + 3, 0, none⟩ v) ((w9.setCell ⟨w.heap.size + 3, 0, none⟩ v).setCell ⟨q, 2, none⟩ u) := Turned.set (F := fun a => a = q) _ ⟨q, 2, none⟩ _ rfl
  have K : Turned (fun a => (Value.slice A n c).ownBlock = some a ∨ a = w.heap.size + 3 ∨ a = q) W ((w9.setCell ⟨w.heap.size + 3, 0, none⟩ v).setCell ⟨q, 2, none⟩ u) := ((kb.mono fun i _ e => Or.inl e).trans (t1.mono fun i _ e => Or.inr (Or.inl e)) fun i e => Or.inl e).trans (t2.mono fun i _ e => Or.inr (Or.inr e)) fun i e => Or.inl e
  refine keepsFrom_turned K B fun a e => ?_
  rcases e with e | e | e
  · obtain ⟨-, cur, h2⟩ := ownblock_cells h.own e
    exact ⟨_, _, _, h2⟩
  · subst e; exact ⟨_, _, _, h.b3⟩
  · subst e; exact ⟨_, _, _, h.sk.block⟩
theorem kfb (h : LI w W F p q g s k b L got of kn A n c rs got') (u v x : Value) (B : Nat) : KeepsFrom B W (((W.setCell ⟨q, 5, none⟩ u).setCell ⟨w.heap.size + 1, 0, none⟩ v).setCell ⟨w.heap.size + 2, 0, none⟩ x) := by
  have t0 : Turned (fun a => a = q) W (W.setCell ⟨q, 5, none⟩ u) := Turned.set (F := fun a => a = q) W ⟨q, 5, none⟩ _ rfl
  have t1 : Turned (fun a => a = w.heap.size + 1) (W.setCell ⟨q, 5, none⟩ u) ((W.setCell ⟨q, 5, none⟩ u).setCell ⟨w.heap.size + 1, 0, none⟩ v) := Turned.set (F := fun a => a = w.heap.size + 1) _ ⟨w.heap.size + 1, 0, none⟩ _ rfl
  have t2 : Turned (fun a => a = w.heap.size + 2) ((W.setCell ⟨q, 5, none⟩ u).setCell ⟨w.heap.size + 1, 0, none⟩ v) (((W.setCell ⟨q, 5, none⟩ u).setCell ⟨w.heap.size + 1, 0, none⟩ v).setCell ⟨w.heap.size + 2, 0, none⟩ x) := Turned.set (F := fun a => a = w.heap.size + 2) _ ⟨w.heap.size + 2, 0, none⟩ _ rfl
  have K : Turned (fun a => a = q ∨ a = w.heap.size + 1 ∨ a = w.heap.size + 2) W (((W.setCell ⟨q, 5, none⟩ u).setCell ⟨w.heap.size + 1, 0, none⟩ v).setCell ⟨w.heap.size + 2, 0, none⟩ x) := ((t0.mono fun i _ e => Or.inl e).trans (t1.mono fun i _ e => Or.inr (Or.inl e)) fun i e => Or.inl e).trans (t2.mono fun i _ e => Or.inr (Or.inr e)) fun i e => Or.inl e
  refine keepsFrom_turned K B fun a e => ?_
  rcases e with e | e | e
  · subst e; exact ⟨_, _, _, h.sk.block⟩
  · subst e; exact ⟨_, _, _, h.b1⟩
  · subst e; exact ⟨_, _, _, h.b2⟩
theorem few (h : LI w W F p q g s k b L got of kn A n c rs got') : n ≤ 16 := by
  have h1 := h.rel.few
  have h2 := h.own.length
  have h3 := h.y.fine
  rw [rowsXs, List.length_map] at h1
  omega
/-- It ends: the results are stored. -/
theorem told (h : LI w W F p q g s k b L got of kn A n c rs got') (hr : ¬ rdyN g k b L got') :
    LT w ((W.setCell ⟨w.heap.size + 1, 0, none⟩ (.slice A n c)).setCell ⟨w.heap.size + 2, 0, none⟩ (.int .i64 0)) F p q g s k b L got of kn A n c rs got' false := by
  have hq := h.ql
  have hsz := h.sz
  have t1 : Turned (fun a => a = w.heap.size + 1) W (W.setCell ⟨w.heap.size + 1, 0, none⟩ (.slice A n c)) := Turned.set (F := fun a => a = w.heap.size + 1) W ⟨w.heap.size + 1, 0, none⟩ _ rfl
  have b1 := boxed_put h.b1 (.slice A n c)
  have b2 := boxed_later h.b2 t1 (by show ¬ (w.heap.size + 2 = w.heap.size + 1); omega)
  obtain ⟨wa, hwa⟩ : ∃ v, W.setCell ⟨w.heap.size + 1, 0, none⟩ (.slice A n c) = v := ⟨_, rfl⟩
  rw [hwa] at t1 b1 b2 ⊢
  have t2 : Turned (fun a => a = w.heap.size + 2) wa (wa.setCell ⟨w.heap.size + 2, 0, none⟩ (.int .i64 0)) := Turned.set (F := fun a => a = w.heap.size + 2) wa ⟨w.heap.size + 2, 0, none⟩ _ rfl
  have K : Turned (fun a => a = w.heap.size + 1 ∨ a = w.heap.size + 2) W (wa.setCell ⟨w.heap.size + 2, 0, none⟩ (.int .i64 0)) := (t1.mono fun i _ e => Or.inl e).trans (t2.mono fun i _ e => Or.inr e) fun i e => Or.inl e
  exact ⟨h.sk.turned K (by omega), h.y.turned K fun a ha e => by have := h.fl a ha; omega, h.fl, h.ql, h.rel.done hr, OwnRows.turned h.own K fun x e e2 => by have := (ownblock_cells h.own e).1; omega, fun r hr => (h.rows r hr).turned K fun x e e2 => by have := (ownblock_cells (h.rows r hr).1 e).1; omega, h.t.trans K fun j e => Or.inr (by omega), boxed_later b1 t2 (by show ¬ (w.heap.size + 1 = w.heap.size + 2); omega), boxed_put b2 _⟩
/-- It is broken. -/
theorem broke (h : LI w W F p q g s k b L got of kn A n c rs got') (h1 : rdyN g k b L got') (h2 : takeE g s (symN g (L got')) ≠ 0) :
    LT w (((W.setCell ⟨q, 5, none⟩ (.bool true)).setCell ⟨w.heap.size + 1, 0, none⟩ (.slice A n c)).setCell ⟨w.heap.size + 2, 0, none⟩ (.int .i64 5)) F p q g s k b L got of kn A n c rs got' true := by
  have hq := h.ql
  have hsz := h.sz
  have t0 : Turned (fun a => a = q) W (W.setCell ⟨q, 5, none⟩ (.bool true)) := Turned.set (F := fun a => a = q) W ⟨q, 5, none⟩ _ rfl
  have sk := h.sk.setBr true
  have y0 := h.y.turned t0 fun a ha e => h.nq (e ▸ ha)
  have o0 := OwnRows.turned h.own t0 fun x e e2 => by have := (ownblock_cells h.own e).1; omega
  have l0 : ∀ r ∈ rs, Own (W.setCell ⟨q, 5, none⟩ (.bool true)) (w.heap.size + 6) 5 r.A r.n r.c r.xs := fun r hr => (h.rows r hr).turned t0 fun x e e2 => by have := (ownblock_cells (h.rows r hr).1 e).1; omega
  have b10 := boxed_later h.b1 t0 (by show ¬ (w.heap.size + 1 = q); omega)
  have b20 := boxed_later h.b2 t0 (by show ¬ (w.heap.size + 2 = q); omega)
  have tt := h.t.trans t0 fun j e => Or.inl e
  obtain ⟨wz, hwz⟩ : ∃ v, W.setCell ⟨q, 5, none⟩ (.bool true) = v := ⟨_, rfl⟩
  rw [hwz] at t0 sk y0 o0 l0 b10 b20 tt ⊢
  have t1 : Turned (fun a => a = w.heap.size + 1) wz (wz.setCell ⟨w.heap.size + 1, 0, none⟩ (.slice A n c)) := Turned.set (F := fun a => a = w.heap.size + 1) wz ⟨w.heap.size + 1, 0, none⟩ _ rfl
  have b1 := boxed_put b10 (.slice A n c)
  have b2 := boxed_later b20 t1 (by show ¬ (w.heap.size + 2 = w.heap.size + 1); omega)
  obtain ⟨wa, hwa⟩ : ∃ v, wz.setCell ⟨w.heap.size + 1, 0, none⟩ (.slice A n c) = v := ⟨_, rfl⟩
  rw [hwa] at t1 b1 b2 ⊢
  have t2 : Turned (fun a => a = w.heap.size + 2) wa (wa.setCell ⟨w.heap.size + 2, 0, none⟩ (.int .i64 5)) := Turned.set (F := fun a => a = w.heap.size + 2) wa ⟨w.heap.size + 2, 0, none⟩ _ rfl
  have K : Turned (fun a => a = w.heap.size + 1 ∨ a = w.heap.size + 2) wz (wa.setCell ⟨w.heap.size + 2, 0, none⟩ (.int .i64 5)) := (t1.mono fun i _ e => Or.inl e).trans (t2.mono fun i _ e => Or.inr e) fun i e => Or.inl e
  exact ⟨sk.turned K (by omega), y0.turned K fun a ha e => by have := h.fl a ha; omega, h.fl, h.ql, h.rel.bad h1 h2, OwnRows.turned o0 K fun x e e2 => by have := (ownblock_cells o0 e).1; omega, fun r hr => (l0 r hr).turned K fun x e e2 => by have := (ownblock_cells (l0 r hr).1 e).1; omega, tt.trans K fun j e => Or.inr (by omega), boxed_later b1 t2 (by show ¬ (w.heap.size + 1 = w.heap.size + 2); omega), boxed_put b2 _⟩
end LI
theorem LT.abide {w W : World} {F : Nat → Prop} {p q g s k b got of n c got' m : Nat} {L : Nat → List (List Nat)} {kn br : Bool} {A : Option Addr} {rs : List RowV} {o o' : Obj} (h : LT w W F p q g s k b L got of kn A n c rs got' br) (hm : w.heap.size + 6 ≤ m) (hb : W.heap[m]? = some o) (hc : o.isCells = false) : LT w (W.putObj m o') F p q g s k b L got of kn A n c rs got' br :=
  have t := turned_putObj W m o'
  have hq := h.ql
  ⟨h.sk.turned t (by omega), h.y.turned t fun a ha e => by have := h.fl a ha; omega, h.fl, h.ql, h.rel, OwnRows.turned h.own t fun x e => by
    obtain ⟨-, cur, h2⟩ := ownblock_cells h.own e
    exact ne_of_cells hb hc h2, fun r hr => (h.rows r hr).turned t fun x e => by
    obtain ⟨-, cur, h2⟩ := ownblock_cells (h.rows r hr).1 e
    exact ne_of_cells hb hc h2, h.t.trans t fun j e => Or.inr (by omega), boxed_later h.b1 t (by omega), boxed_later h.b2 t (by omega)⟩
/-- What Release tells. -/
def LTold (w : World) (F : Nat → Prop) (p q g s k b : Nat) (L : Nat → List (List Nat)) (got of : Nat) (kn : Bool) (e : Ending) (w' : World) : Prop :=
  ∃ (A : Option Addr) (n c : Nat) (rs : List RowV) (n' : Nat) (br : Bool), e = .returned (.tuple #[.slice A n c, .int .i64 (if br then 5 else 0)]) ∧ RelT g s k b L got (rowsXs rs) n' br ∧
    OwnRows w' w.heap.size 37 A n c rs ∧ (∀ r ∈ rs, Own w' w.heap.size 5 r.A r.n r.c r.xs) ∧ SnkR w' q (g : Int) (s : Int) n' of kn br ∧ RelR w' F p g s k b L ∧ Turned (fun a => a = q) w w'
theorem LT.out {w W : World} {F : Nat → Prop} {p q g s k b got of n c got' : Nat} {L : Nat → List (List Nat)} {kn br : Bool} {A : Option Addr} {rs : List RowV} (h : LT w W F p q g s k b L got of kn A n c rs got' br) :
    LTold w F p q g s k b L got of kn (.returned (.tuple #[.slice A n c, .int .i64 (if br then 5 else 0)])) W :=
  ⟨A, n, c, rs, got', br, rfl, h.rel, OwnRows.lowerB h.own (by omega), fun r hr => (h.rows r hr).lower (by omega), h.sk, h.y, h.t⟩
end Go.Proofs.Ytgelalbmhllccaa
/- The landed sink: its iterator. -/
namespace Go.Proofs.Ytgelalbmhllccaa
open Go.RowKit Lin
set_option linter.unusedVariables false
set_option linter.unusedSimpArgs false
attribute [local go_sem] Oper.semAt_some
theorem yield_cases {e : Ending} {X Y : Prop} (h : (e = .returned (.bool true) ∧ X) ∨ (e = .returned (.bool false) ∧ Y)) : ∃ bb : Bool, e = .returned (.bool bb) ∧ (bb = true → X) ∧ (bb = false → Y) := by
  rcases h with ⟨rfl, h⟩ | ⟨rfl, h⟩
  · exact ⟨true, rfl, fun _ => h, fun e => (by cases e)⟩
  · exact ⟨false, rfl, fun e => (by cases e), fun _ => h⟩
section
variable {F : Nat → Prop} {p q g s k b of : Nat} {L : Nat → List (List Nat)} {kn : Bool}
set_option maxRecDepth 100000 in
set_option maxHeartbeats 4000000 in
theorem ready_any (m B Bk Bb got : Nat) (hm : 1 ≤ m) (J : Nat → World → Prop) (hB : ∀ n W, J n W → SnkB W F p q g s k b of L kn Bk Bb n) (hJ : ∀ n W W', J n W → Keep W W' → J n W') (hsz : ∀ n W, J n W → B ≤ W.heap.size) :
    HandsP Fence.wide m Try.prog 27 #[] #[.pointer (some ⟨Bk, 0, none⟩), .pointer (some ⟨Bb, 0, none⟩)] (fun x : ChV => #[.slice x.A x.r x.c, .int .i64 x.e]) B
      (fun W => J got W)
      (fun W => ∃ n, J n W ∧ ¬ rdyN g k b L n)
      (fun x W => J x.n W ∧ rdyN g k b L x.n ∧ x.e = takeE g s (symN g (L x.n)) ∧ x.xs = takeV g s (symN g (L x.n)) ∧ Own W B 5 x.A x.r x.c x.xs)
      (fun x W => J (x.n + 1) W) := by
  intro l X Ix W hX hY hs hXW
  refine callsIn_of_wp Try.func27 rfl trivial ?_ rfl
  simp only [Try.ntmps27, List.size_toArray, List.length_cons, List.length_nil, Nat.reduceAdd, Nat.reduceSub, Array.replicate_succ, Array.replicate_zero, List.push_toArray, List.append_toArray, List.nil_append, List.cons_append]
  have ck := (hB _ _ hs).bk.cell
  have c2 := (hB _ _ hs).sk.c2
  gi_wp2
  gi_loopw [4] (fun u wr => ∃ n : Nat, u = .int .u64 (n : Int) ∧ J n wr ∧ X wr) (fun u _ => topN + 1 - (intOf u).toNat)
  case atStart => exact ⟨got, rfl, hs, hXW⟩
  case round =>
    clear ck c2
    obtain ⟨n, rfl, hj, hXw⟩ := hrel
    have HB := Lib.hid (hB _ _ hj)
    have ck := HB.out.bk.cell
    have cb := HB.out.bb.cell
    have c0 := HB.out.sk.c0
    have c1 := HB.out.sk.c1
    have htop : n < 18446744073709551616 := by have := HB.out.sk.top; unfold topN at this; omega
    by_cases hlt : n < topN
    · have d1 : (n : Int) < 1099511627776 := by unfold topN at hlt; omega
      have d2 : decide ((n : Int) < 1099511627776) = true := decide_eq_true d1
      have HSV := Lib.hid (rl_solve_all HB.out.y n htop)
      by_cases hrd : rdyN g k b L n
      · have e1 : ySolveE g k b L n = 0 := by rw [ySolveE, if_pos hrd.1, if_pos hrd.2]
        have e2 : ySolveV g k b L n = symN g (L n) := by rw [ySolveV, if_pos (show winIn b k n = true ∧ (L n).length = g from hrd)]; rfl
        have hsv := HSV.out
        rw [e1, e2] at hsv
        have HRD := Lib.hid hrd
        clear hrd HSV e1 e2
        gi_wp2_with (refine ⟨trivial, ?_⟩; gi_at_call 28; refine (callsIn_wide.2 hsv).mono ?_; rintro e w5 ⟨A5, r5, cc5, rs5, rfl, o5, ho5, hx5, k5⟩)
        have kd := k5.drew
        have hjd := hJ _ _ _ hj kd
        have HBd := Lib.hid (hB _ _ hjd)
        have HTK := Lib.hid (take_solved (L := L) HB.out.sk.may (fun x hx => ((HB.out.y.bas n).ok x hx).1) o5 ho5 hx5 w5.drew (Keep.drew (Keep.refl w5)))
        have xk := HBd.out.bk.cell
        have x0 := HBd.out.sk.c0
        have x1 := HBd.out.sk.c1
        clear ck cb c0 c1 o5 ho5 hx5 hsv
        gi_region_with (first
          | (refine ⟨trivial, ?_⟩; gi_at_call 29; refine (callsIn_wide.2 HTK.out).mono ?_; rintro e w6 ⟨A6, n6, c6, rfl, o6, k6⟩; obtain ⟨fn, tmps, assign, body, hy, hR⟩ := hY ⟨n, A6, n6, c6, takeV g s (symN g (L n)), takeE g s (symN g (L n))⟩ w6 ⟨hJ _ _ _ hjd k6, HRD.out, rfl, rfl, o6.lower (hsz _ _ hjd)⟩ (hX _ _ hXw (KeepsFrom.of_keep (kd.trans k6))))
          | (refine hR.mono ?_; rintro e W3 hc; obtain ⟨bb, rfl, hbt, hbf⟩ := yield_cases hc))
        all_goals clear hy hR hY hX HTK HBd xk x0 x1 hjd hXw hj
        all_goals cases bb with
          | true =>
            obtain ⟨hj3, hx3⟩ := hbt rfl
            clear hbt hbf
            obtain ⟨gp, hgp⟩ : ∃ v, n + 1 = v := ⟨_, rfl⟩
            rw [hgp] at hj3
            have g1 : (n : Int) + 1 = (gp : Int) := by omega
            have g2 : IntKind.u64.wrap (gp : Int) = (gp : Int) := IntWalk.u64_in _ (by unfold topN at hlt; omega)
            have g3 : IntKind.u64.wrap ((n : Int) + 1) = (gp : Int) := by rw [g1]; exact g2
            have HG := Lib.hid hgp
            have HJ3 := Lib.hid (And.intro hj3 hx3)
            clear hgp hj3 hx3
            try simp only [Act.put, List.getElem_toArray, List.getElem_cons_succ, List.getElem_cons_zero, List.setIfInBounds_toArray, List.set_cons_zero, List.set_cons_succ, Bool.not_true, Bool.not_false]
            gi_wp2
            go_roundw
            case rel => exact ⟨gp, rfl, HJ3.out.1, HJ3.out.2⟩
            case measure => (have := HG.out; simp [intOf]; omega)
          | false =>
            have HX3 := Lib.hid (hbf rfl)
            clear hbt hbf
            try simp only [Act.put, List.getElem_toArray, List.getElem_cons_succ, List.getElem_cons_zero, List.setIfInBounds_toArray, List.set_cons_zero, List.set_cons_succ, Bool.not_true, Bool.not_false]
            gi_wp2
            refine bodyPost_ret (results_none rfl _ _ _) rfl ?_
            exact ⟨⟨_, rfl⟩, .inr HX3.out⟩
      · have e1 : ySolveE g k b L n = 24 ∨ ySolveE g k b L n = 23 := by
          rw [ySolveE]
          by_cases hw : winIn b k n = true
          · rw [if_pos hw, if_neg fun e => hrd ⟨hw, e⟩]; exact Or.inl rfl
          · rw [if_neg hw]; exact Or.inr rfl
        have hsv := HSV.out
        have HRD := Lib.hid hrd
        clear hrd HSV c0 c1 hY
        rcases e1 with e1 | e1
        all_goals rw [e1] at hsv
        all_goals clear e1
        all_goals gi_wp2_with (refine ⟨trivial, ?_⟩; gi_at_call 28; refine (callsIn_wide.2 hsv).mono ?_; rintro e w5 ⟨A5, r5, cc5, rs5, rfl, o5, ho5, hx5, k5⟩)
        all_goals have HE := Lib.hid (And.intro (hJ _ _ _ hj k5.drew) (hX _ _ hXw (KeepsFrom.of_keep k5.drew)))
        all_goals clear hJ hX hXw hj ck cb o5 ho5 hx5 hsv
        all_goals (
          refine wpIn_region_any (by kernel_rfl) ?_
          refine wpAnyIn_take (i := 0) (v := ?_) rfl rfl (by kernel_rfl) (by kernel_rfl) (by kernel_rfl) (fun _ _ _ h => h) ⟨Or.inl ⟨by rfl, ?_⟩, fun _ => rfl⟩ ?_
          rotate_left
          · intro wq
            go_simp
            all_goals with_reducible rfl
          try simp only [Act.put, List.getElem_toArray, List.getElem_cons_succ, List.getElem_cons_zero, List.setIfInBounds_toArray, List.set_cons_zero, List.set_cons_succ]
          refine wpAnyIn_take (i := 1) (v := ?_) rfl rfl (by kernel_rfl) (by kernel_rfl) (by kernel_rfl) (fun _ _ _ h => h) ⟨Or.inl ⟨by rfl, ?_⟩, fun _ => rfl⟩ ?_
          rotate_left
          · intro wq
            go_simp
            all_goals with_reducible rfl
          try simp only [Act.put, List.getElem_toArray, List.getElem_cons_succ, List.getElem_cons_zero, List.setIfInBounds_toArray, List.set_cons_zero, List.set_cons_succ]
          refine wpAnyIn_take (i := 2) (v := ?_) rfl rfl (by kernel_rfl) (by kernel_rfl) (by kernel_rfl) (fun _ _ _ h => h) ⟨Or.inl ⟨by rfl, ?_⟩, fun _ => rfl⟩ ?_
          rotate_left
          · intro wq
            go_simp
            all_goals with_reducible rfl
          try simp only [Act.put, List.getElem_toArray, List.getElem_cons_succ, List.getElem_cons_zero, List.setIfInBounds_toArray, List.set_cons_zero, List.set_cons_succ]
          refine wpAnyIn_take (i := 3) (v := undef) rfl rfl (by kernel_rfl) (by kernel_rfl) (by kernel_rfl) (fun _ _ _ h => h) ⟨Or.inr ⟨by rfl, rfl⟩, fun _ => rfl⟩ ?_
          try simp only [Act.put, List.getElem_toArray, List.getElem_cons_succ, List.getElem_cons_zero, List.setIfInBounds_toArray, List.set_cons_zero, List.set_cons_succ]
          refine wpAnyIn_take (i := 4) (v := undef) rfl rfl (by kernel_rfl) (by kernel_rfl) (by kernel_rfl) (fun _ _ _ h => h) ⟨Or.inr ⟨by rfl, rfl⟩, fun _ => rfl⟩ ?_
          try simp only [Act.put, List.getElem_toArray, List.getElem_cons_succ, List.getElem_cons_zero, List.setIfInBounds_toArray, List.set_cons_zero, List.set_cons_succ]
          refine wpAnyIn_take (i := 5) (v := undef) rfl rfl (by kernel_rfl) (by kernel_rfl) (by kernel_rfl) (fun _ _ _ h => h) ⟨Or.inr ⟨by rfl, rfl⟩, fun _ => rfl⟩ ?_
          try simp only [Act.put, List.getElem_toArray, List.getElem_cons_succ, List.getElem_cons_zero, List.setIfInBounds_toArray, List.set_cons_zero, List.set_cons_succ]
          refine wpAnyIn_take (i := 6) (v := undef) rfl rfl (by kernel_rfl) (by kernel_rfl) (by kernel_rfl) (fun _ _ _ h => h) ⟨Or.inr ⟨by rfl, rfl⟩, fun _ => rfl⟩ ?_
          try simp only [Act.put, List.getElem_toArray, List.getElem_cons_succ, List.getElem_cons_zero, List.setIfInBounds_toArray, List.set_cons_zero, List.set_cons_succ]
          refine wpAnyIn_take (i := 7) (v := undef) rfl rfl (by kernel_rfl) (by kernel_rfl) (by kernel_rfl) (fun _ _ _ h => h) ⟨Or.inr ⟨by rfl, rfl⟩, fun _ => rfl⟩ ?_
          try simp only [Act.put, List.getElem_toArray, List.getElem_cons_succ, List.getElem_cons_zero, List.setIfInBounds_toArray, List.set_cons_zero, List.set_cons_succ]
          refine wpAnyIn_take (i := 8) (v := undef) rfl rfl (by kernel_rfl) (by kernel_rfl) (by kernel_rfl) (fun _ _ _ h => h) ⟨Or.inr ⟨by rfl, rfl⟩, fun _ => rfl⟩ ?_
          try simp only [Act.put, List.getElem_toArray, List.getElem_cons_succ, List.getElem_cons_zero, List.setIfInBounds_toArray, List.set_cons_zero, List.set_cons_succ]
          refine wpAnyIn_take (i := 9) (v := undef) rfl rfl (by kernel_rfl) (by kernel_rfl) (by kernel_rfl) (fun _ _ _ h => h) ⟨Or.inr ⟨by rfl, rfl⟩, fun _ => rfl⟩ ?_
          try simp only [Act.put, List.getElem_toArray, List.getElem_cons_succ, List.getElem_cons_zero, List.setIfInBounds_toArray, List.set_cons_zero, List.set_cons_succ]
          refine wpAnyIn_take (i := 10) (v := undef) rfl rfl (by kernel_rfl) (by kernel_rfl) (by kernel_rfl) (fun _ _ _ h => h) ⟨Or.inr ⟨by rfl, rfl⟩, fun _ => rfl⟩ ?_
          try simp only [Act.put, List.getElem_toArray, List.getElem_cons_succ, List.getElem_cons_zero, List.setIfInBounds_toArray, List.set_cons_zero, List.set_cons_succ]
          refine wpAnyIn_take (i := 11) (v := undef) rfl rfl (by kernel_rfl) (by kernel_rfl) (by kernel_rfl) (fun _ _ _ h => h) ⟨Or.inr ⟨by rfl, rfl⟩, fun _ => rfl⟩ ?_
          try simp only [Act.put, List.getElem_toArray, List.getElem_cons_succ, List.getElem_cons_zero, List.setIfInBounds_toArray, List.set_cons_zero, List.set_cons_succ]
          refine wpAnyIn_take (i := 12) (v := undef) rfl rfl (by kernel_rfl) (by kernel_rfl) (by kernel_rfl) (fun _ _ _ h => h) ⟨Or.inr ⟨by rfl, rfl⟩, fun _ => rfl⟩ ?_
          try simp only [Act.put, List.getElem_toArray, List.getElem_cons_succ, List.getElem_cons_zero, List.setIfInBounds_toArray, List.set_cons_zero, List.set_cons_succ]
          refine wpAnyIn_ready (rs := [13]) (by kernel_rfl) (by simp) ?_
          refine AllReadyIn.cons rfl (fun K hK => ?_) AllReadyIn.nil
          go_simp
          refine ⟨trivial, ?_⟩
          refine hK _ _ ?_
          clear hK K
          try simp only [Act.put, List.getElem_toArray, List.getElem_cons_succ, List.getElem_cons_zero, List.setIfInBounds_toArray, List.set_cons_zero, List.set_cons_succ]
          refine wpAnyIn_take (i := 14) (v := undef) rfl rfl (by kernel_rfl) (by kernel_rfl) (by kernel_rfl) (fun _ _ _ h => h) ⟨Or.inr ⟨by rfl, rfl⟩, fun _ => rfl⟩ ?_
          try simp only [Act.put, List.getElem_toArray, List.getElem_cons_succ, List.getElem_cons_zero, List.setIfInBounds_toArray, List.set_cons_zero, List.set_cons_succ]
          refine wpAnyIn_take (i := 15) (v := undef) rfl rfl (by kernel_rfl) (by kernel_rfl) (by kernel_rfl) (fun _ _ _ h => h) ⟨Or.inr ⟨by rfl, rfl⟩, fun _ => rfl⟩ ?_
          try simp only [Act.put, List.getElem_toArray, List.getElem_cons_succ, List.getElem_cons_zero, List.setIfInBounds_toArray, List.set_cons_zero, List.set_cons_succ]
          refine wpAnyIn_ready (rs := [16]) (by kernel_rfl) (by simp) ?_
          refine AllReadyIn.cons rfl (fun K hK => ?_) AllReadyIn.nil
          go_simp
          refine ⟨fun _ h => (by cases h), ?_⟩
          refine hK _ _ ?_
          clear hK K
          try simp only [Act.put, List.getElem_toArray, List.getElem_cons_succ, List.getElem_cons_zero, List.setIfInBounds_toArray, List.set_cons_zero, List.set_cons_succ]
          refine wpAnyIn_take (i := 17) (v := undef) rfl rfl (by kernel_rfl) (by kernel_rfl) (by kernel_rfl) (fun _ _ _ h => h) ⟨Or.inr ⟨by rfl, rfl⟩, fun _ => rfl⟩ ?_
          try simp only [Act.put, List.getElem_toArray, List.getElem_cons_succ, List.getElem_cons_zero, List.setIfInBounds_toArray, List.set_cons_zero, List.set_cons_succ]
          refine wpAnyIn_take (i := 18) (v := ?_) rfl rfl (by kernel_rfl) (by kernel_rfl) (by kernel_rfl) (fun _ _ _ h => h) ⟨Or.inl ⟨by rfl, ?_⟩, fun _ => rfl⟩ ?_
          rotate_left
          · intro wq
            go_simp
            all_goals with_reducible rfl
          try simp only [Act.put, List.getElem_toArray, List.getElem_cons_succ, List.getElem_cons_zero, List.setIfInBounds_toArray, List.set_cons_zero, List.set_cons_succ]
          refine wpAnyIn_done (by kernel_rfl) ?_ _
          gi_wp2
          refine bodyPost_ret (results_none rfl _ _ _) rfl ?_
          exact ⟨⟨_, rfl⟩, .inl ⟨⟨n, HE.out.1, HRD.out⟩, HE.out.2⟩⟩)
    · have d1 : ¬ (n : Int) < 1099511627776 := by unfold topN at hlt; omega
      have d2 : decide ((n : Int) < 1099511627776) = false := decide_eq_false d1
      gi_wp2
      go_end0
      exact ⟨⟨_, rfl⟩, .inl ⟨⟨n, hj, fun e => hlt (rdy_top e)⟩, hXw⟩⟩
end
end Go.Proofs.Ytgelalbmhllccaa
