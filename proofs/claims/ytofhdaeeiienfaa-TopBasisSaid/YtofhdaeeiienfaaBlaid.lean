/- Symbols, and rows that go with them, laid out of an argument. -/
import Derived.Test.YtofhdaeeiienfaaBref1
import Derived.Test.YtofhdaeeiienfaaBas
import Derived.Test.YtofhdaeeiienfaaFill
import Derived.Test.YtofhdaeeiienfaaMgen
import Derived.Test.YtofhdaeeiienfaaRowsMk
import Derived.BigQuiet
namespace Go.Proofs.Ytofhdaeeiienfaa
open Go.RowKit
set_option linter.unusedVariables false
set_option linter.unusedSimpArgs false
/-- Rows being laid: their own block new, what they hold apart from it. -/
def LaySt (W w : World) (A : Option Addr) (n c : Nat) (ps : List PairV) : Prop :=
  OwnSt w W.heap.size A n c ps ∧ (∀ p ∈ ps, LiesIn w (fun b => W.heap.size ≤ b ∧ b < w.heap.size ∧ ¬ (Value.slice A n c).ownBlock = some b) p.a ∧ LiesIn w (fun b => W.heap.size ≤ b ∧ b < w.heap.size ∧ ¬ (Value.slice A n c).ownBlock = some b) p.b) ∧ Keep W w
theorem st_apart {w : World} {base base' n n' c c' : Nat} {A A' : Option Addr} {xs : List Nat} {ps : List PairV} (h : Own w base 5 A n c xs) (h' : OwnSt w base' A' n' c' ps) : ∀ b, (Value.slice A n c).ownBlock = some b → ¬ (Value.slice A' n' c').ownBlock = some b := fun b hb hb' => by
  rcases h.1.2 with ⟨hv, _⟩ | ⟨g, cap, cur, hv, _, hh, _⟩
  · rw [hv] at hb; cases hb
  · rcases h'.2 with ⟨hv', _⟩ | ⟨g', cap', cur', hv', _, hh', _⟩
    · rw [hv'] at hb'; cases hb'
    · rw [hv] at hb
      rw [hv'] at hb'
      have e1 : g = b := by simpa [Value.ownBlock] using hb
      have e2 : g' = b := by simpa [Value.ownBlock] using hb'
      subst e1; subst e2
      rw [hh] at hh'
      simp at hh'
namespace LaySt
variable {W w w' : World} {A : Option Addr} {n c : Nat} {ps : List PairV}
theorem nothing (W : World) : LaySt W W none 0 0 [] := ⟨OwnSt.none_ _ _, fun p hp => by simp at hp, Keep.refl W⟩
theorem later (h : LaySt W w A n c ps) (k : Keep w w') : LaySt W w' A n c ps :=
  ⟨h.1.keep k, fun p hp => ⟨((h.2.1 p hp).1.turned (Turned.of_keep (F := fun _ => False) k) fun _ _ e => e).mono fun b hb => ⟨hb.1, Nat.lt_of_lt_of_le hb.2.1 k.size, hb.2.2⟩, ((h.2.1 p hp).2.turned (Turned.of_keep (F := fun _ => False) k) fun _ _ e => e).mono fun b hb => ⟨hb.1, Nat.lt_of_lt_of_le hb.2.1 k.size, hb.2.2⟩⟩, h.2.2.trans k⟩
theorem apart (h : LaySt W w A n c ps) {r : RowV} (o : Own w W.heap.size 5 r.A r.n r.c r.xs) : LiesIn w (fun b => W.heap.size ≤ b ∧ b < w.heap.size ∧ ¬ (Value.slice A n c).ownBlock = some b) r :=
  o.lies.mono fun b hb => ⟨(o.1.lt b hb).1, (o.1.lt b hb).2, st_apart o h.1 b hb⟩
theorem more {A2 : Option Addr} {c2 : Nat} {p : PairV} {o : Obj} (h : LaySt W w A n c ps) (ha : LiesIn w (fun b => W.heap.size ≤ b ∧ b < w.heap.size ∧ ¬ (Value.slice A n c).ownBlock = some b) p.a) (hb : LiesIn w (fun b => W.heap.size ≤ b ∧ b < w.heap.size ∧ ¬ (Value.slice A n c).ownBlock = some b) p.b) (o2 : OwnSt w' W.heap.size A2 (n + 1) c2 (ps ++ [p])) (k : (w.alloc o).grownBy w' (Value.slice A n c).ownBlock)
    (hk : (Value.slice A2 (n + 1) c2).ownBlock = (Value.slice A n c).ownBlock ∨ (Value.slice A2 (n + 1) c2).ownBlock = some (w.alloc o).heap.size) : LaySt W w' A2 (n + 1) c2 (ps ++ [p]) := by
  have ka : Keep w (w.alloc o) := Below.alloc (Keep.refl w) (Nat.le_refl _) o
  have kT : Turned (fun b => (Value.slice A n c).ownBlock = some b) w w' := (Turned.of_keep ka).trans (Turned.of_grown (F := fun b => (Value.slice A n c).ownBlock = some b) k fun i e => e) fun i e => Or.inl e
  have key : ∀ r, LiesIn w (fun b => W.heap.size ≤ b ∧ b < w.heap.size ∧ ¬ (Value.slice A n c).ownBlock = some b) r → LiesIn w' (fun b => W.heap.size ≤ b ∧ b < w'.heap.size ∧ ¬ (Value.slice A2 (n + 1) c2).ownBlock = some b) r := fun r hr =>
    (hr.turned kT fun b hb e => hb.2.2 e).mono fun b hb => ⟨hb.1, Nat.lt_of_lt_of_le hb.2.1 kT.size, fun e => by
      rcases hk with h1 | h1
      · exact hb.2.2 (h1 ▸ e)
      · rw [h1] at e
        injection e with e
        have := ka.size
        simp at e; omega⟩
  exact ⟨o2, fun q hq => by
    rcases List.mem_append.1 hq with hq | hq
    · exact ⟨key _ (h.2.1 q hq).1, key _ (h.2.1 q hq).2⟩
    · rw [List.mem_singleton] at hq; subst hq
      exact ⟨key _ ha, key _ hb⟩, kT.keep h.2.2 fun b e => (h.1.lt b e).1⟩
theorem stIn (h : LaySt W w A n c ps) : StIn w (fun b => W.heap.size ≤ b ∧ b < w.heap.size) A n ps :=
  h.1.stIn (fun p hp => ⟨(h.2.1 p hp).1.mono fun b hb => ⟨hb.1, hb.2.1⟩, (h.2.1 p hp).2.mono fun b hb => ⟨hb.1, hb.2.1⟩⟩) fun b hb => h.1.lt b hb
end LaySt
theorem results_tmp4 {fn : Func} {t u v x : Tmp} (h : fn.results = #[.tmp t, .tmp u, .tmp v, .tmp x]) (tmps : Array Value) (P : Program) (w : World) :
    (results fn tmps).run P w = .ok (.tuple #[tmps.getD t undef, tmps.getD u undef, tmps.getD v undef, tmps.getD x undef]) w := by
  simp [results, h]
/-- The symbols, as many and as long as they should be. -/
def symM (S : List (List Nat)) (s k : Nat) : List (List Nat) := (List.range k).map fun i => fillN (S.getD i []) s
theorem symM_succ (S : List (List Nat)) (s k : Nat) : symM S s (k + 1) = symM S s k ++ [fillN (S.getD k []) s] := by simp [symM, List.range_succ]
theorem symM_sz (S : List (List Nat)) (s g : Nat) (h : ∀ x ∈ S, AllB x) : Sz g s (symM S s g) := ⟨by simp [symM], fun x hx => by
  obtain ⟨i, _, rfl⟩ := List.mem_map.1 hx
  refine ⟨fillN_len _ _, fillN_all ?_ _⟩
  cases e : S[i]? with
  | none => rw [List.getD_eq_getElem?_getD, e]; exact fun x hx => by simp at hx
  | some y => rw [List.getD_eq_getElem?_getD, e]; exact h y (List.mem_of_getElem? e)⟩
theorem fillN_nil (s : Nat) : fillN [] s = List.replicate s 0 := by simp [fillN]
/-- The rows: coefficients cut or filled, and what goes with them. -/
def rowsM (g s : Nat) (M : List (List Nat)) (C : List (List Nat)) (k : Nat) : List (List Nat × List Nat) := (C.take k).map fun c => (fillN c g, payV g s M (fillN c g))
theorem rowsM_succ {g s : Nat} {M C : List (List Nat)} {k : Nat} {c : List Nat} (h : C[k]? = some c) : rowsM g s M C (k + 1) = rowsM g s M C k ++ [(fillN c g, payV g s M (fillN c g))] := by
  rw [rowsM, List.take_add_one, h]; simp [rowsM]
theorem rowsOf_none {rs : List RowV} {j n : Nat} (h : rs.length = n) (hj : ¬ j < n) : (rowsOf rs).getD j [] = [] := by
  rw [List.getD_eq_getElem?_getD, List.getElem?_eq_none (by simp [rowsOf]; omega)]; rfl
end Go.Proofs.Ytofhdaeeiienfaa
