/- Matrices laid row by row, or out of the rows of others; parts of matrices. -/
import Derived.Test.YtcmjglmagkjdoaaMvec
import Derived.Test.YtcmjglmagkjdoaaRowsApp
namespace Go.Proofs.Ytcmjglmagkjdoaa
open Go.RowKit
set_option linter.unusedVariables false
set_option linter.unusedSimpArgs false
/-- A list of rows that is being laid: its own block new, its rows anywhere else. -/
def Lay (W w : World) (A : Option Addr) (n c : Nat) (rs : List RowV) : Prop :=
  OwnRows w W.heap.size 26 A n c rs ∧ (∀ r ∈ rs, LiesIn w (fun b => b < w.heap.size ∧ ¬ (Value.slice A n c).ownBlock = some b) r) ∧ Keep W w
namespace Lay
variable {W w w' : World} {A A2 : Option Addr} {n c m c2 : Nat} {rs news : List RowV}
theorem nothing (W : World) : Lay W W none 0 0 [] := ⟨OwnRows.none_ _ _ _, fun r hr => by simp at hr, Keep.refl W⟩
theorem keep (h : Lay W w A n c rs) : Keep W w := h.2.2
theorem later (h : Lay W w A n c rs) (k : Keep w w') : Lay W w' A n c rs :=
  ⟨h.1.keep k, fun r hr => ((h.2.1 r hr).turned (Turned.of_keep (F := fun _ => False) k) fun _ _ e => e).mono fun b hb => ⟨Nat.lt_of_lt_of_le hb.1 k.size, hb.2⟩, h.2.2.trans k⟩
theorem mat (h : Lay W w A n c rs) : Mat w ⟨A, n, c, rowsXs rs⟩ :=
  ⟨rs, RowsIn.of_own h.1 (fun r hr => (h.2.1 r hr).mono fun b hb => hb.1) (fun b hb => (h.1.lt b hb).2), rfl, ownrows_le h.1⟩
theorem added (h : Lay W w A n c rs) (hn : ∀ r ∈ news, LiesIn w (fun b => b < w.heap.size ∧ ¬ (Value.slice A n c).ownBlock = some b) r) (o2 : OwnRows w' W.heap.size 26 A2 m c2 (rs ++ news)) (hgr : w.grownBy w' (Value.slice A n c).ownBlock)
    (hb : (Value.slice A2 m c2).ownBlock = (Value.slice A n c).ownBlock ∨ (Value.slice A2 m c2).ownBlock = some w.heap.size) : Lay W w' A2 m c2 (rs ++ news) := by
  have kT : Turned (fun b => (Value.slice A n c).ownBlock = some b) w w' := Turned.of_grown hgr fun i e => e
  have key : ∀ r, LiesIn w (fun b => b < w.heap.size ∧ ¬ (Value.slice A n c).ownBlock = some b) r → LiesIn w' (fun b => b < w'.heap.size ∧ ¬ (Value.slice A2 m c2).ownBlock = some b) r := fun r hr =>
    (hr.turned kT fun b hb e => hb.2 e).mono fun b hb' => ⟨Nat.lt_of_lt_of_le hb'.1 hgr.size, fun e => by
      rcases hb with h1 | h1
      · exact hb'.2 (h1 ▸ e)
      · rw [h1] at e; injection e with e; omega⟩
  refine ⟨o2, fun r hr => ?_, h.2.2.grown hgr fun k hk => h.1.rowLe k hk⟩
  rcases List.mem_append.1 hr with hr | hr
  · exact key r (h.2.1 r hr)
  · exact key r (hn r hr)
/-- Rows that were there before lie apart. -/
theorem old (h : Lay W w A n c rs) {r : RowV} (hr : LiesIn W (fun b => b < W.heap.size) r) : LiesIn w (fun b => b < w.heap.size ∧ ¬ (Value.slice A n c).ownBlock = some b) r :=
  (hr.turned (Turned.of_keep (F := fun _ => False) h.2.2) fun _ _ e => e).mono fun b hb => ⟨Nat.lt_of_lt_of_le hb h.2.2.size, fun e => by have := h.1.rowLe b e; omega⟩
/-- Rows of one's own lie apart. -/
theorem own (h : Lay W w A n c rs) {B nr cr : Nat} {Ar : Option Addr} {xs : List Nat} (o : Own w B 5 Ar nr cr xs) : LiesIn w (fun b => b < w.heap.size ∧ ¬ (Value.slice A n c).ownBlock = some b) ⟨Ar, nr, cr, xs⟩ :=
  o.lies.mono fun b hb => ⟨(o.1.lt b hb).2, fun e => by
    rcases blocks_apart o h.1 (by decide) with z | z
    · rw [z] at hb; cases hb
    · exact z (hb.trans e.symm)⟩
end Lay
/-- append(list, matrix...). -/
theorem wp_append_lay {o : Oper} {a : Act} {w : World} {K : Act → World → Prop} {Q : Exit → Act → World → Prop} (s x : Operand) (t : TypeId)
    (ho : o.op = .call { callee := .builtin .append, args := #[s, x], argTypes := #[t, t] }) {W : World} {A B : Option Addr} {n c m cx : Nat} {rs : List RowV} {N : List (List Nat)} (ht : Try.prog.underlying t = some (.slice 26))
    (hs : a.eval s = .slice A n c) (hL : Lay W w A n c rs) (hx0 : a.eval x = .slice B m cx) (hM : Mat W ⟨B, m, cx, N⟩) (k : Nat) (hk : n + m = k) (hlen : k ≤ 1000000)
    (h : ∀ A2 c2 w' rs', Lay W w' A2 k c2 rs' → rowsXs rs' = rowsXs rs ++ N → K (a.put o.dst (.slice A2 k c2)) w') : o.wp Try.prog a w K Q := by
  subst hk
  obtain ⟨rt, e1, rfl, e3⟩ := hM
  refine wp_append_rows s x t ho ht infoRow hs hL.1 hx0 e1.1 (fun hp => ?_) hlen hL.2.2.size fun A2 c2 w' h2 h3 h4 => h A2 c2 w' (rs ++ rt) (hL.added (fun r hr => hL.old (e1.2.1 r hr)) h2 h3 h4) (by simp [rowsXs])
  obtain ⟨b, off, e, hb, hc⟩ := e1.2.2 hp
  exact ⟨b, off, e, fun i r hi => (Below.cell (p := ⟨b, off + i, none⟩) hL.2.2 hb).trans (hc i r hi)⟩
theorem wpList_append_lay {ops : Array Oper} {rest : List Oper} {o : Oper} {a : Act} {w : World} {Q : Exit → Act → World → Prop} (hgd : o.guard = none) (s x : Operand) (t : TypeId)
    (ho : o.op = .call { callee := .builtin .append, args := #[s, x], argTypes := #[t, t] }) {W : World} {A B : Option Addr} {n c m cx : Nat} {rs : List RowV} {N : List (List Nat)} (ht : Try.prog.underlying t = some (.slice 26))
    (hs : a.eval s = .slice A n c) (hL : Lay W w A n c rs) (hx0 : a.eval x = .slice B m cx) (hM : Mat W ⟨B, m, cx, N⟩) (k : Nat) (hk : n + m = k) (hlen : k ≤ 1000000)
    (h : ∀ A2 c2 w' rs', Lay W w' A2 k c2 rs' → rowsXs rs' = rowsXs rs ++ N → wpList Try.prog ops Q rest (a.put o.dst (.slice A2 k c2)) w') : wpList Try.prog ops Q (o :: rest) a w :=
  wpList_plain hgd fun _ hK => wp_append_lay s x t ho ht hs hL hx0 hM k hk hlen fun A2 c2 w' rs' h1 h2 => hK _ _ (h A2 c2 w' rs' h1 h2)
/-- append(list, row), the row in a block of one behind. -/
theorem wpList_append_layrow {ops : Array Oper} {rest : List Oper} {o : Oper} {a : Act} {w : World} {Q : Exit → Act → World → Prop} (hgd : o.guard = none) (s x : Operand) (t : TypeId)
    (ho : o.op = .call { callee := .builtin .append, args := #[s, x], argTypes := #[t, t] }) {W : World} {A : Option Addr} {n c cx : Nat} {rs : List RowV} (r : RowV) (t' : TypeId) (ht : Try.prog.underlying t = some (.slice 26))
    (hs : a.eval s = .slice A n c) (hL : Lay W w A n c rs) (hr : LiesIn w (fun b => b < w.heap.size ∧ ¬ (Value.slice A n c).ownBlock = some b) r) (hx0 : a.eval x = .slice (some ⟨w.heap.size, 0, none⟩) 1 cx) (hlen : n ≤ 1000000)
    (h : ∀ A2 c2 w', Lay W w' A2 (n + 1) c2 (rs ++ [r]) → wpList Try.prog ops Q rest (a.put o.dst (.slice A2 (n + 1) c2)) w') : wpList Try.prog ops Q (o :: rest) a (w.alloc (.cells #[.slice r.A r.n r.c] t')) := by
  have hL2 := hL.later ((Keep.refl w).alloc #[.slice r.A r.n r.c] t')
  refine wpList_append_row hgd s x t ho r ht infoRow hs hL2.1 hx0 (by rw [World.cell?_alloc_new]; rfl) hlen hL2.2.2.size fun A2 c2 w' h2 h3 h4 => h A2 c2 w' (hL2.added (fun y hy => ?_) h2 h3 h4)
  rw [List.mem_singleton] at hy; subst hy
  exact (hr.turned (Turned.of_keep (F := fun _ => False) ((Keep.refl w).alloc _ _)) fun _ _ e => e).mono fun b hb => ⟨Nat.lt_of_lt_of_le hb.1 (by rw [size_obj]; omega), hb.2⟩
namespace Lay
variable {W w w' : World} {A : Option Addr} {n c g i : Nat} {rs : List RowV}
theorem stored (h : Lay W w (some ⟨g, 0, none⟩) n c rs) (r : RowV) (hr : LiesIn w (fun b => b < w.heap.size ∧ ¬ (Value.slice (some ⟨g, 0, none⟩) n c).ownBlock = some b) r) (i : Nat) : Lay W (w.setCell ⟨g, i, none⟩ (.slice r.A r.n r.c)) (some ⟨g, 0, none⟩) n c (rs.set i r) := by
  have kT : Turned (fun b => b = g) w (w.setCell ⟨g, i, none⟩ (.slice r.A r.n r.c)) := Turned.set (F := fun b => b = g) _ _ _ rfl
  have key : ∀ y, LiesIn w (fun b => b < w.heap.size ∧ ¬ (Value.slice (some ⟨g, 0, none⟩) n c).ownBlock = some b) y → LiesIn (w.setCell ⟨g, i, none⟩ (.slice r.A r.n r.c)) (fun b => b < (w.setCell ⟨g, i, none⟩ (.slice r.A r.n r.c)).heap.size ∧ ¬ (Value.slice (some ⟨g, 0, none⟩) n c).ownBlock = some b) y := fun y hy =>
    (hy.turned kT fun b hb e => hb.2 (by rw [e]; rfl)).mono fun b hb => ⟨Nat.lt_of_lt_of_le hb.1 kT.size, hb.2⟩
  refine ⟨h.1.stored r, fun y hy => ?_, h.2.2.setCell (h.1.rowLe g rfl) _⟩
  rcases List.mem_or_eq_of_mem_set hy with hy | rfl
  · exact key y (h.2.1 y hy)
  · exact key _ hr
theorem row_at (h : Lay W w A n c rs) (hi : i < n) : ∃ g r, A = some ⟨g, 0, none⟩ ∧ W.heap.size ≤ g ∧ g < w.heap.size ∧ rs[i]? = some r ∧ w.cell? ⟨g, i, none⟩ = some (.slice r.A r.n r.c) ∧ w.frozen? ⟨g, i, none⟩ = false ∧ Bytes w w.heap.size r.A r.n r.xs := by
  obtain ⟨g, rfl, hg, hgl⟩ := h.1.block (by omega)
  have hil : i < rs.length := by rw [h.1.length]; exact hi
  refine ⟨g, rs[i], rfl, hg, hgl, List.getElem?_eq_getElem hil, ?_, World.ownsRow.frozenAt h.1 i, (h.2.1 _ (List.getElem_mem hil)).bytes fun b hb => hb.1⟩
  have hc := World.ownsRow.cells h.1 (g := g) rfl i (rs[i]).val (by rw [List.getElem?_map, List.getElem?_eq_getElem hil]; rfl)
  have haa : (⟨g, 0, none⟩ : Addr).add i = ⟨g, i, none⟩ := by unfold Addr.add; split <;> simp_all
  rwa [haa] at hc
theorem xs_set (rs : List RowV) (i : Nat) (r : RowV) : rowsXs (rs.set i r) = (rowsXs rs).set i r.xs := by rw [rowsXs, List.map_set]; rfl
end Lay
/-- append(list, row), in a region, the row anywhere. -/
theorem wp_append_layrow_at {o : Oper} {a : Act} {w : World} {K : Act → World → Prop} {Q : Exit → Act → World → Prop} (s x : Operand) (t : TypeId)
    (ho : o.op = .call { callee := .builtin .append, args := #[s, x], argTypes := #[t, t] }) {W : World} {A : Option Addr} {n c cx : Nat} {rs : List RowV} {ad : Addr} (r : RowV) (ht : Try.prog.underlying t = some (.slice 26))
    (hs : a.eval s = .slice A n c) (hL : Lay W w A n c rs) (hr : LiesIn w (fun b => b < w.heap.size ∧ ¬ (Value.slice A n c).ownBlock = some b) r) (hx0 : a.eval x = .slice (some ad) 1 cx) (hx : w.cell? ad = some (.slice r.A r.n r.c)) (hlen : n ≤ 1000000)
    (h : ∀ A2 c2 w', Lay W w' A2 (n + 1) c2 (rs ++ [r]) → K (a.put o.dst (.slice A2 (n + 1) c2)) w') : o.wp Try.prog a w K Q :=
  wp_append_row s x t ho r ht infoRow hs hL.1 hx0 hx hlen hL.2.2.size fun A2 c2 w' h2 h3 h4 => h A2 c2 w' (hL.added (fun y hy => by rw [List.mem_singleton] at hy; subst hy; exact hr) h2 h3 h4)
/-- append(list, row), in a region. -/
theorem wp_append_layrow {o : Oper} {a : Act} {w : World} {K : Act → World → Prop} {Q : Exit → Act → World → Prop} (s x : Operand) (t : TypeId)
    (ho : o.op = .call { callee := .builtin .append, args := #[s, x], argTypes := #[t, t] }) {W : World} {A : Option Addr} {n c cx : Nat} {rs : List RowV} (r : RowV) (t' : TypeId) (ht : Try.prog.underlying t = some (.slice 26))
    (hs : a.eval s = .slice A n c) (hL : Lay W w A n c rs) (hr : LiesIn w (fun b => b < w.heap.size ∧ ¬ (Value.slice A n c).ownBlock = some b) r) (hx0 : a.eval x = .slice (some ⟨w.heap.size, 0, none⟩) 1 cx) (hlen : n ≤ 1000000)
    (h : ∀ A2 c2 w', Lay W w' A2 (n + 1) c2 (rs ++ [r]) → K (a.put o.dst (.slice A2 (n + 1) c2)) w') : o.wp Try.prog a (w.alloc (.cells #[.slice r.A r.n r.c] t')) K Q := by
  have hL2 := hL.later ((Keep.refl w).alloc #[.slice r.A r.n r.c] t')
  refine wp_append_row s x t ho r ht infoRow hs hL2.1 hx0 (by rw [World.cell?_alloc_new]; rfl) hlen hL2.2.2.size fun A2 c2 w' h2 h3 h4 => h A2 c2 w' (hL2.added (fun y hy => ?_) h2 h3 h4)
  rw [List.mem_singleton] at hy; subst hy
  exact (hr.turned (Turned.of_keep (F := fun _ => False) ((Keep.refl w).alloc _ _)) fun _ _ e => e).mono fun b hb => ⟨Nat.lt_of_lt_of_le hb.1 (by rw [size_obj]; omega), hb.2⟩
/-- A row of a matrix. -/
theorem Mat.row_at {w : World} {A : Option Addr} {n c r k i : Nat} {M : List (List Nat)} (h : Mat w ⟨A, n, c, M⟩) (s : Sz r k M) (hi : i < r) :
    ∃ b off Ay cy, A = some ⟨b, off, none⟩ ∧ b < w.heap.size ∧ w.cell? ⟨b, off + i, none⟩ = some (.slice Ay k cy) ∧ Bytes w w.heap.size Ay k (M.getD i []) ∧ k ≤ cy ∧ LiesIn w (fun b => b < w.heap.size) ⟨Ay, k, cy, M.getD i []⟩ := by
  have hn := h.cnt s
  obtain ⟨rs, e1, rfl, e3⟩ := h
  obtain ⟨b, off, y, e, hb, hy, hc, hl⟩ := e1.at_ (k := i) (by show i < n; omega)
  have hx : (rowsXs rs).getD i [] = y.xs := rowsXs_at hy
  have hyn : y.n = k := by rw [← hl.1, ← hx]; exact (s.at_ hi).1
  obtain ⟨Ay, ny, cy, ys⟩ := y
  have hyn : ny = k := hyn
  have hx : (rowsXs rs).getD i [] = ys := hx
  subst hyn; subst hx
  exact ⟨b, off, Ay, cy, e, hb, hc, hl.bytes fun _ e => e, hl.2.2.1, hl⟩
theorem Mat.take {w : World} {A : Option Addr} {n c k : Nat} {M : List (List Nat)} (h : Mat w ⟨A, n, c, M⟩) (hk : k ≤ n) : Mat w ⟨A, k, c, M.take k⟩ := by
  obtain ⟨rs, e1, rfl, e3⟩ := h
  refine ⟨rs.take k, ⟨by rw [List.length_take, e1.1]; exact Nat.min_eq_left hk, fun r hr => e1.2.1 r (List.mem_of_mem_take hr), fun hp => ?_⟩, by simp [rowsXs, List.map_take], Nat.le_trans hk e3⟩
  have hp2 : 0 < k := hp
  obtain ⟨b, off, e, hb, hc⟩ := e1.2.2 (by show 0 < n; omega)
  refine ⟨b, off, e, hb, fun i r hi => hc i r ?_⟩
  rw [List.getElem?_take] at hi
  split at hi
  · exact hi
  · cases hi
theorem Mat.drop {w : World} {A : Option Addr} {n c k : Nat} {M : List (List Nat)} (h : Mat w ⟨A, n, c, M⟩) : Mat w ⟨dropA A c k, n - k, c - k, M.drop k⟩ := by
  obtain ⟨rs, e1, rfl, e3⟩ := h
  have e3 : n ≤ c := e3
  exact ⟨rs.drop k, e1.drop e3, by simp [rowsXs, List.map_drop], by show n - k ≤ c - k; omega⟩
theorem Sz.sizeC_le {r k : Nat} {M : List (List Nat)} (s : Sz r k M) : Go.Proofs.Ytcmjglmagkjdoaa.sizeC M ≤ k := by
  rcases Nat.eq_zero_or_pos r with h | h
  · obtain rfl : M = [] := List.eq_nil_of_length_eq_zero (s.1.trans h)
    exact Nat.zero_le _
  · rw [s.sizeC h]; exact Nat.le_refl _
theorem rank_sz0 {w : World} {A : Option Addr} {n c r k : Nat} {M : List (List Nat)} (h : Mat w ⟨A, n, c, M⟩) (s : Sz r k M) (h1 : r ≤ 255) (h2 : k ≤ 255) : Calls Try.prog 25 #[.slice A n c] w fun e w' => e = .returned (.tuple #[.int .i64 (rk M : Int), .int .i64 0]) ∧ Keep w w' := by
  have hh := rank_mat h (by rw [h.cnt s]; omega) (by have := s.sizeC_le; omega)
  rw [s.sizeE] at hh
  exact hh
theorem reduce_sz0 {w : World} {A : Option Addr} {n c r k : Nat} {M : List (List Nat)} (h : Mat w ⟨A, n, c, M⟩) (s : Sz r k M) (h1 : r ≤ 255) (h2 : k ≤ 255) : Calls Try.prog 19 #[.slice A n c] w (NewMat w (reduceN M) 0) := by
  have hh := reduce_mat h (by rw [h.cnt s]; omega) (by have := s.sizeC_le; omega)
  rw [s.sizeE] at hh
  exact hh
end Go.Proofs.Ytcmjglmagkjdoaa
