/- What the landed calls of layer 6 lay in new memory. -/
import Derived.Test.YtcjjhblgejkkeaaMgen
import Derived.Test.YtcjjhblgejkkeaaRowsMk
import Derived.Test.YtcjjhblgejkkeaaVA
import Derived.Test.YtcjjhblgejkkeaaEqual
import Derived.StillTailTactics
import Derived.Test.YtcjjhblgejkkeaaMp
import Derived.Test.YtcjjhblgejkkeaaFI
import Derived.Deep.LoopGhost
import Derived.WalkMore
import Derived.Deep.DeepCutAuto
import Derived.Deep.CutBlock
import Derived.Test.YtcjjhblgejkkeaaRowsApp
import Derived.Test.YtcjjhblgejkkeaaLibc
namespace Go.Proofs.Ytcjjhblgejkkeaa
open Go.RowKit
set_option linter.unusedVariables false
/-- Rows in new memory, each a slice of its own: what the code tells. -/
def OwnedRows (w w' : World) (A : Option Addr) (n c : Nat) (M : List (List Nat)) (rs : List RowV) : Prop :=
  OwnRows w' w.heap.size 22 A n c rs ∧ (∀ r ∈ rs, Own w' w.heap.size 5 r.A r.n r.c r.xs) ∧ rowsXs rs = M ∧ Keep w w'
def NewOwned (w : World) (M : List (List Nat)) (er : Int) (e : Ending) (w' : World) : Prop :=
  ∃ A n c, e = .returned (.tuple #[.slice A n c, .int .i64 er]) ∧ ∃ rs, OwnedRows w w' A n c M rs
theorem OwnedRows.rowsIn {w w' : World} {A : Option Addr} {n c : Nat} {M : List (List Nat)} {rs : List RowV} (h : OwnedRows w w' A n c M rs) : RowsIn w' (fun b => w.heap.size ≤ b ∧ b < w'.heap.size) A n rs :=
  RowsIn.of_own h.1 (fun r hr => (h.2.1 r hr).lies.mono fun b hb => (h.2.1 r hr).1.lt b hb) (fun b hb => h.1.lt b hb)
theorem NewOwned.nothing {w w' : World} (k : Keep w w') (er : Int) : NewOwned w [] er (.returned (.tuple #[.slice none 0 0, .int .i64 er])) w' := ⟨none, 0, 0, rfl, [], OwnRows.none_ _ _ _, fun r hr => by simp at hr, rfl, k⟩
/-- Rows being filled in: those not yet laid are none. -/
structure Fill (W w : World) (g n : Nat) (rs : List RowV) : Prop where
  own : OwnRows w W.heap.size 22 (some ⟨g, 0, none⟩) n n rs
  rows : ∀ r ∈ rs, Own w W.heap.size 5 r.A r.n r.c r.xs
  keep : Keep W w
namespace Fill
variable {W w w' : World} {g n : Nat} {rs : List RowV}
theorem made {w1 : World} (k : Keep W w1) (hn : n ≤ 1000000) (hg : w1.heap.size = g) : Fill W (w1.alloc (.cells (madeCells #[.slice none 0 0] n) 22)) g n (List.replicate n ⟨none, 0, 0, []⟩) := by
  subst hg
  refine ⟨?_, fun r hr => ?_, k.alloc _ _⟩
  · have h := OwnRows.made w1 22 n hn
    refine ⟨h.1, ?_⟩
    rcases h.2 with h1 | ⟨g, cap, cur, hv, hg, r⟩
    · exact Or.inl h1
    · exact Or.inr ⟨g, cap, cur, hv, Nat.le_trans k.size hg, r⟩
  · obtain ⟨_, rfl⟩ := List.mem_replicate.1 hr
    exact Own.none_ _ _ _
theorem later (h : Fill W w g n rs) (k : Keep w w') : Fill W w' g n rs := ⟨h.own.keep k, fun r hr => (h.rows r hr).keep k, h.keep.trans k⟩
theorem length (h : Fill W w g n rs) : rs.length = n := h.own.length
theorem cell (h : Fill W w g n rs) {i : Nat} {r : RowV} (hi : rs[i]? = some r) : w.cell? ⟨g, i, none⟩ = some (.slice r.A r.n r.c) := by
  have hc := World.ownsRow.cells h.own (g := g) rfl i r.val (by rw [List.getElem?_map, hi]; rfl)
  have ha : (⟨g, 0, none⟩ : Addr).add i = ⟨g, i, none⟩ := by unfold Addr.add; split <;> simp_all
  rwa [ha] at hc
theorem any (h : Fill W w g n rs) {i : Nat} (hi : i < n) : ∃ v, w.cell? ⟨g, i, none⟩ = some v := by
  have hl : i < rs.length := by rw [h.length]; exact hi
  exact ⟨_, h.cell (List.getElem?_eq_getElem hl)⟩
theorem frozen (h : Fill W w g n rs) (i : Nat) : w.frozen? ⟨g, i, none⟩ = false := World.ownsRow.frozenAt h.own i
theorem lt (h : Fill W w g n rs) (hn : 0 < n) : W.heap.size ≤ g ∧ g < w.heap.size := by
  obtain ⟨g', e, h1, h2⟩ := h.own.block hn
  injection e with e
  injection e with e
  subst e
  exact ⟨h1, h2⟩
theorem set (h : Fill W w g n rs) {r : RowV} (i : Nat) (o : Own w W.heap.size 5 r.A r.n r.c r.xs) (hn : 0 < n) : Fill W (w.setCell ⟨g, i, none⟩ (.slice r.A r.n r.c)) g n (rs.set i r) := by
  have hfar : ∀ r' : RowV, Own w W.heap.size 5 r'.A r'.n r'.c r'.xs → Own (w.setCell ⟨g, i, none⟩ (.slice r.A r.n r.c)) W.heap.size 5 r'.A r'.n r'.c r'.xs := fun r' o' => o'.far (p := ⟨g, i, none⟩) (by
    rcases blocks_apart o' h.own (by decide) with z | z
    · rw [z]; simp
    · exact fun e => z (e.trans rfl)) _
  refine ⟨h.own.stored r, fun r' hr' => ?_, h.keep.setCell (h.lt hn).1 _⟩
  rcases List.mem_or_eq_of_mem_set hr' with h1 | h1
  · exact hfar r' (h.rows r' h1)
  · subst h1; exact hfar r' o
theorem done (h : Fill W w g n rs) {M : List (List Nat)} (hM : rowsXs rs = M) (er : Int) : NewOwned W M er (.returned (.tuple #[.slice (some ⟨g, 0, none⟩) n n, .int .i64 er])) w := ⟨_, n, n, rfl, rs, h.own, h.rows, hM, h.keep⟩
end Fill
theorem rowsXs_set (rs : List RowV) (i : Nat) (r : RowV) : rowsXs (rs.set i r) = (rowsXs rs).set i r.xs := by simp [rowsXs, List.map_set]
theorem rowsXs_none (n : Nat) : rowsXs (List.replicate n ⟨none, 0, 0, []⟩) = List.replicate n [] := by simp [rowsXs]
/-- The first k rows laid. -/
theorem laid_set {T : List (List Nat)} {n k : Nat} {x : List Nat} (hT : T.length = n) (hk : k < n) (hx : T.getD k [] = x) : ((T.take k) ++ List.replicate (n - k) []).set k x = (T.take (k + 1)) ++ List.replicate (n - (k + 1)) [] := by
  subst hT
  apply List.ext_getElem?
  intro i
  have e : T[k] = x := by rw [← hx, List.getD_eq_getElem?_getD, List.getElem?_eq_getElem hk]; rfl
  have m1 : min k T.length = k := by omega
  have m2 : min (k + 1) T.length = k + 1 := by omega
  rw [List.getElem?_set]
  simp only [List.length_append, List.length_take, List.length_replicate, List.getElem?_append, List.getElem?_take, List.getElem?_replicate, m1, m2]
  by_cases h1 : k = i
  · subst h1
    rw [if_pos rfl, if_pos (by omega), if_pos (by omega), if_pos (by omega), List.getElem?_eq_getElem hk, e]
  · rw [if_neg h1]
    by_cases h2 : i < k
    · rw [if_pos h2, if_pos h2, if_pos (by omega), if_pos (by omega)]
    · rw [if_neg h2, if_neg (show ¬ i < k + 1 by omega)]
      by_cases h3 : i < T.length
      · rw [if_pos (by omega), if_pos (by omega)]
      · rw [if_neg (by omega), if_neg (by omega)]
theorem laid_zero (T : List (List Nat)) (n : Nat) : (T.take 0) ++ List.replicate (n - 0) [] = List.replicate n [] := by simp
theorem laid_all {T : List (List Nat)} {n : Nat} (h : T.length = n) : (T.take n) ++ List.replicate (n - n) [] = T := by
  subst h; simp
end Go.Proofs.Ytcjjhblgejkkeaa
/- The landed code of layer 6: sizes, comparing, the identity. -/
namespace Go.Proofs.Ytcjjhblgejkkeaa
open Go.RowKit
set_option linter.unusedVariables false
set_option linter.unusedSimpArgs false
end Go.Proofs.Ytcjjhblgejkkeaa
/- The landed code of layer 6: transposes, products. -/
namespace Go.Proofs.Ytcjjhblgejkkeaa
open Go.RowKit
set_option linter.unusedVariables false
set_option linter.unusedSimpArgs false
/-- Rows being filled in, one of them number by number. -/
structure Fill2 (W w : World) (g n k : Nat) (rs : List RowV) (g2 m : Nat) (part : List Nat) : Prop where
  own : OwnRows w W.heap.size 22 (some ⟨g, 0, none⟩) n n (rs.set k ⟨some ⟨g2, 0, none⟩, m, m, part⟩)
  rows : ∀ r ∈ rs, Own w W.heap.size 5 r.A r.n r.c r.xs ∧ (Value.slice r.A r.n r.c).ownBlock ≠ some g2
  row : Own w W.heap.size 5 (some ⟨g2, 0, none⟩) m m part
  keep : Keep W w
namespace Fill2
variable {W w w' : World} {g n k g2 m : Nat} {rs : List RowV} {part : List Nat}
theorem ne (h : Fill2 W w g n k rs g2 m part) : g ≠ g2 := fun e => by
  rcases blocks_apart h.row h.own (by decide) with z | z
  · simp [Value.ownBlock] at z
  · exact z (by rw [e]; rfl)
theorem start (h : Fill W w g n rs) (hk : k < n) (hm : m ≤ 140737488355328) (hg2 : w.heap.size = g2) :
    Fill2 W ((w.alloc (.cells (madeCells #[.int .u8 0] m) 5)).setCell ⟨g, k, none⟩ (.slice (some ⟨g2, 0, none⟩) m m)) g n k rs g2 m (List.replicate m 0) := by
  subst hg2
  have hf := h.later ((Keep.refl w).alloc (madeCells #[.int .u8 0] m) 5)
  have ho := (Own.made w 5 m hm).lower h.keep.size
  have hs := hf.set (r := ⟨some ⟨w.heap.size, 0, none⟩, m, m, List.replicate m 0⟩) k ho (by omega)
  have hg := (h.lt (by omega)).2
  refine ⟨hs.own, fun r hr => ⟨?_, fun e => ?_⟩, ?_, hs.keep⟩
  · refine (hf.rows r hr).far (p := ⟨g, k, none⟩) ?_ _
    rcases blocks_apart (hf.rows r hr) hf.own (by decide) with z | z
    · rw [z]; simp
    · exact fun e => z (e.trans rfl)
  · have := ((h.rows r hr).1.lt _ e).2; omega
  · exact ho.far (p := ⟨g, k, none⟩) (by simp [Value.ownBlock]; omega) _
theorem cell (h : Fill2 W w g n k rs g2 m part) (hk : k < rs.length) : w.cell? ⟨g, k, none⟩ = some (.slice (some ⟨g2, 0, none⟩) m m) := by
  have hc := World.ownsRow.cells h.own (g := g) rfl k (.slice (some ⟨g2, 0, none⟩) m m) (by rw [List.getElem?_map, List.getElem?_set_self hk]; rfl)
  have ha : (⟨g, 0, none⟩ : Addr).add k = ⟨g, k, none⟩ := by unfold Addr.add; split <;> simp_all
  rwa [ha] at hc
theorem store (h : Fill2 W w g n k rs g2 m part) (i v : Nat) (hv : v < 256) : Fill2 W (w.setCell ⟨g2, i, none⟩ (.int .u8 (v : Int))) g n k rs g2 m (part.set i v) := by
  have ht : Turned (fun b => b = g2) w (w.setCell ⟨g2, i, none⟩ (.int .u8 (v : Int))) := Turned.set (F := fun b => b = g2) _ _ _ rfl
  refine ⟨?_, fun r hr => ⟨(h.rows r hr).1.far (p := ⟨g2, i, none⟩) (h.rows r hr).2 _, (h.rows r hr).2⟩, h.row.stored hv, h.keep.setCell ?_ _⟩
  · have z := h.own.turned ht fun b hb e => by
      have hb : g = b := by simpa [Value.ownBlock] using hb
      exact h.ne (hb.trans e)
    unfold OwnRows at z ⊢
    rw [List.map_set] at z ⊢
    exact z
  · exact (h.row.1.lt g2 rfl).1
theorem drew (h : Fill2 W w g n k rs g2 m part) : Fill2 W w.drew g n k rs g2 m part := ⟨h.own, h.rows, h.row, h.keep.drew⟩
theorem done (h : Fill2 W w g n k rs g2 m part) : Fill W w g n (rs.set k ⟨some ⟨g2, 0, none⟩, m, m, part⟩) := ⟨h.own, fun r hr => by
  rcases List.mem_or_eq_of_mem_set hr with h1 | h1
  · exact (h.rows r h1).1
  · subst h1; exact h.row, h.keep⟩
end Fill2
theorem colN_upto (M : List (List Nat)) (c n : Nat) : colN M c n = upto n (fun j => (M.getD j []).getD c 0) (fun _ => 0) n := by rw [upto_all]; rfl
theorem trN_at (M : List (List Nat)) (r k c : Nat) (h : c < k) : (trN M r k).getD c [] = colN M c r := by
  rw [trN, List.getD_eq_getElem?_getD, List.getElem?_map, List.getElem?_range h]; rfl
theorem trN_len (M : List (List Nat)) (r k : Nat) : (trN M r k).length = k := by simp [trN]
theorem RowsIn.rowsAt {w : World} {F : Nat → Prop} {A : Option Addr} {n : Nat} {rs : List RowV} (h : RowsIn w F A n rs) {B : Nat} (hF : ∀ b, F b → b < B) (hb : ∀ r ∈ rs, r.n ≤ 140737488351232) : RowsAt w B A n rs :=
  ⟨h.1, fun r hr => ⟨(h.2.1 r hr).bytes hF, hb r hr, (h.2.1 r hr).2.2.1⟩, fun hp => by
    obtain ⟨b, off, e, hFb, hc⟩ := h.2.2 hp
    exact ⟨b, off, e, hF b hFb, hc⟩⟩
theorem rowN_comb {r : List Nat} {N : List (List Nat)} (hr : AllB r) (hN : ∀ x ∈ N, AllB x) (m c : Nat) : vComb c N r m = rowN r N m c := tab_congr fun k _ => by
  show sumX _ m = sumX _ m
  refine sumX_congr fun i _ => mul_comm' _ _ ?_ (hr.getD i)
  cases e : N[i]? with
  | none => simp [List.getD_eq_getElem?_getD, e]
  | some x => rw [List.getD_eq_getElem?_getD (l := N), e]; exact (hN x (List.mem_of_getElem? e)).getD k
theorem prodN_at {M N : List (List Nat)} {n c k : Nat} {r : List Nat} (h : M[k]? = some r) (hk : k < M.length) : (prodN M N n c M.length).getD k [] = rowN r N n c := by
  rw [prodN, List.take_length, List.getD_eq_getElem?_getD, List.getElem?_map, h]; rfl
theorem prodN_len (M N : List (List Nat)) (n c : Nat) : (prodN M N n c M.length).length = M.length := by simp [prodN]
theorem prodN_none {M N : List (List Nat)} (h : N.length = 0) : prodN M N 0 (sizeC N) M.length = List.replicate M.length [] := by
  obtain rfl := List.eq_nil_of_length_eq_zero h
  rw [prodN, List.take_length]
  exact List.ext_getElem (by simp) fun i h1 h2 => by simp [rowN, sizeC, fits, tab]
end Go.Proofs.Ytcjjhblgejkkeaa
/- The landed code of layer 6: products. -/
namespace Go.Proofs.Ytcjjhblgejkkeaa
open Go.RowKit
set_option linter.unusedVariables false
set_option linter.unusedSimpArgs false
end Go.Proofs.Ytcjjhblgejkkeaa
/- The landed code of layer 6: a matrix on its way to a reduced one: a row divided, a row wiped. -/
namespace Go.Proofs.Ytcjjhblgejkkeaa
open Go.RowKit
set_option linter.unusedVariables false
set_option linter.unusedSimpArgs false
namespace Wk
variable {W w w' : World} {b : Nat} {A : Option Addr} {n cap nc B d col q : Nat} {rs : List RowV}
end Wk
end Go.Proofs.Ytcjjhblgejkkeaa
/- The landed code of layer 6: a row taken; a matrix reduced by columns. -/
namespace Go.Proofs.Ytcjjhblgejkkeaa
open Go.RowKit
set_option linter.unusedVariables false
set_option linter.unusedSimpArgs false
theorem rowsXs_some {rs : List RowV} {k : Nat} (h : k < rs.length) : ∃ r, rs[k]? = some r ∧ (rowsXs rs).getD k [] = r.xs := ⟨rs[k], List.getElem?_eq_getElem h, rowsXs_at (List.getElem?_eq_getElem h)⟩
end Go.Proofs.Ytcjjhblgejkkeaa
/- The landed code of layer 6: a matrix reduced by columns. -/
namespace Go.Proofs.Ytcjjhblgejkkeaa
open Go.RowKit Lin
set_option linter.unusedVariables false
set_option linter.unusedSimpArgs false
end Go.Proofs.Ytcjjhblgejkkeaa
/- The landed code of layer 6: lists of rows copied; the reduced matrix, its rank. -/
namespace Go.Proofs.Ytcjjhblgejkkeaa
open Go.RowKit Lin
set_option linter.unusedVariables false
set_option linter.unusedSimpArgs false
theorem OwnRows.lit0 (w : World) (t : TypeId) : OwnRows (w.alloc (.cells #[] t)) w.heap.size t (some ⟨w.heap.size, 0, none⟩) 0 0 [] := by
  have h := World.ownsRow_lit (w := w) (base := w.heap.size) (e := t) (size := 1) #[] 0 (Nat.le_refl _) (by unfold maxLen; omega) (by simp)
  simpa [OwnRows] using h
theorem OwnRows.lower {w : World} {base base' e n c : Nat} {A : Option Addr} {rs : List RowV} (h : OwnRows w base e A n c rs) (hb : base' ≤ base) : OwnRows w base' e A n c rs := by
  refine ⟨h.1, ?_⟩
  rcases h.2 with h1 | ⟨g, cap, cur, hv, hg, r⟩
  · exact Or.inl h1
  · exact Or.inr ⟨g, cap, cur, hv, Nat.le_trans hb hg, r⟩
theorem RowsIn.none_addr {w : World} {F : Nat → Prop} {n : Nat} {rs : List RowV} (h : RowsIn w F none n rs) : n = 0 := by
  rcases Nat.eq_zero_or_pos n with e | e
  · exact e
  · obtain ⟨b, off, e, _⟩ := h.2.2 e; cases e
theorem RowsIn.take {w : World} {F : Nat → Prop} {A : Option Addr} {n d : Nat} {rs : List RowV} (h : RowsIn w F A n rs) (hd : d ≤ n) : RowsIn w F A d (rs.take d) :=
  ⟨by rw [List.length_take, h.1]; omega, fun r hr => h.2.1 r (List.mem_of_mem_take hr), fun hp => by
    obtain ⟨b, off, e, hb, hc⟩ := h.2.2 (by omega)
    refine ⟨b, off, e, hb, fun i r hi => hc i r ?_⟩
    rw [List.getElem?_take] at hi
    split at hi
    · exact hi
    · cases hi⟩
end Go.Proofs.Ytcjjhblgejkkeaa
/- The landed code of layer 6: the inverse. -/
namespace Go.Proofs.Ytcjjhblgejkkeaa
open Go.RowKit Lin
set_option linter.unusedVariables false
set_option linter.unusedSimpArgs false
namespace WkF
variable {W w w' : World} {b g n B : Nat} {rs : List RowV}
end WkF
theorem joinN_two (a b : RowV) : joinN [a, b] = a.xs ++ b.xs := by simp [joinN]
end Go.Proofs.Ytcjjhblgejkkeaa
