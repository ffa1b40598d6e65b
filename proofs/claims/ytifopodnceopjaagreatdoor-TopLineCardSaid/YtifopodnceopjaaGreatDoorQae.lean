/- Contracts for matrices of known sizes; matrices and rows side by side; matrices laid row by row; parts of matrices. -/
import Derived.Test.YtifopodnceopjaaGreatDoorQad
import Derived.Laws.CopyOwn
import Derived.Test.YtifopodnceopjaaGreatDoorQab
import Derived.Test.YtifopodnceopjaaGreatDoorQac
import Derived.Deep.DeepCutAuto
import Derived.Deep.CutBlock
import Derived.StillTailTactics
import Derived.Test.YtifopodnceopjaaGreatDoorQaa
namespace Go.Proofs.YtifopodnceopjaaGreatDoor
open Go.RowKit
set_option linter.unusedVariables false
set_option linter.unusedSimpArgs false
section
variable {w : World} {A A' : Option Addr} {n n' c c' r k m : Nat} {M N : List (List Nat)}
theorem Mat.cnt (h : Mat w ⟨A, n, c, M⟩) (s : Sz r k M) : n = r := h.len.symm.trans s.1
end
/-- Matrices, rows, and what was there has not turned. -/
structure Sr (W w : World) (l : List MV) (rs : List RowV) : Prop where
  st : St W w l
  rows : ∀ r ∈ rs, Bytes w w.heap.size r.A r.n r.xs
namespace Sr
variable {W w w' : World} {l : List MV} {rs : List RowV}
theorem start (W : World) : Sr W W [] [] := ⟨St.start W, fun x hx => by simp at hx⟩
theorem byte_later {r : RowV} (h : Bytes w w.heap.size r.A r.n r.xs) (k : Keep w w') : Bytes w' w'.heap.size r.A r.n r.xs := (h.keep (Nat.le_refl _) k).mono k.size
theorem later (h : Sr W w l rs) (k : Keep w w') : Sr W w' l rs := ⟨h.st.later k, fun r hr => byte_later (h.rows r hr) k⟩
theorem more {x : MV} (h : Sr W w l rs) (m : Mat w' x) (k : Keep w w') : Sr W w' (l ++ [x]) rs := ⟨h.st.more m k, fun r hr => byte_later (h.rows r hr) k⟩
theorem get {x : MV} (h : Sr W w l rs) (i : Nat) (hx : l[i]? = some x) : Mat w x := h.st.get i hx
theorem row {r : RowV} (h : Sr W w l rs) (i : Nat) (hx : rs[i]? = some r) : Bytes w w.heap.size r.A r.n r.xs := h.rows r (List.mem_of_getElem? hx)
theorem keep (h : Sr W w l rs) : Keep W w := h.st.keep
end Sr
theorem Mat.rowsAt {w : World} {A : Option Addr} {n c r k : Nat} {M : List (List Nat)} (h : Mat w ⟨A, n, c, M⟩) (s : Sz r k M) (hk : k ≤ 1000) : ∃ rs, RowsIn w (· < w.heap.size) A n rs ∧ rowsXs rs = M ∧ (∀ y ∈ rs, y.n = k) := by
  obtain ⟨rs, h1, h2, h3⟩ := h
  refine ⟨rs, h1, h2, fun y hy => ?_⟩
  rw [← (h1.2.1 y hy).1]
  have hm : y.xs ∈ rowsXs rs := List.mem_map.2 ⟨y, hy, rfl⟩
  rw [h2] at hm
  exact (s.2 y.xs hm).1
theorem RowsIn.at_rows {w : World} {B : Nat} {A : Option Addr} {n k : Nat} {rs : List RowV} (h : RowsIn w (· < B) A n rs) (hn : ∀ y ∈ rs, y.n = k) (hk : k ≤ 1000) : RowsAt w B A n rs :=
  ⟨h.1, fun r hr => ⟨(h.2.1 r hr).bytes fun _ e => e, by rw [hn r hr]; omega, (h.2.1 r hr).2.2.1⟩, h.2.2⟩
/-- vector.Combine. -/
theorem comb_mat {w : World} {A A' : Option Addr} {n n' c c' r k B : Nat} {M : List (List Nat)} {row : List Nat} (h : Mat w ⟨A, n, c, M⟩) (s : Sz r k M) (hr : 1 ≤ r) (h1 : r ≤ 255) (h2 : k ≤ 255) (hb : Bytes w B A' n' row) (hB : B ≤ w.heap.size) (hn' : n' = r) :
    Calls Tryz.prog 14 #[.slice A n c, .slice A' n' c'] w (NewPair w (vComb k M row r) 0) := by
  obtain rfl : n = n' := (h.cnt s).trans hn'.symm
  subst hn'
  obtain ⟨rs, e1, e2, e3⟩ := h.rowsAt s (by omega)
  obtain ⟨r0, hr0⟩ : ∃ r0, rs[0]? = some r0 := ⟨_, List.getElem?_eq_getElem (by rw [e1.1]; omega)⟩
  have hall : ∀ y ∈ rs, y.n = r0.n := fun y hy => by rw [e3 y hy, e3 r0 (List.mem_of_getElem? hr0)]
  have hh := vcomb_any (w.heap.size) B n c c' A A' rs row w (e1.at_rows e3 (by omega)) hb (Nat.le_refl _) hB (by omega) (by omega) r0 hr0
  rw [combOf, if_pos hall, combErr, if_pos hall, e3 r0 (List.mem_of_getElem? hr0), e1.1] at hh
  rw [show rowsOf rs = M from e2] at hh
  exact hh
/-- A row made and filled. -/
def fillN (xs : List Nat) (n : Nat) : List Nat := xs.take n ++ List.replicate (n - xs.length) 0
theorem fillN_len (xs : List Nat) (n : Nat) : (fillN xs n).length = n := by simp [fillN]; omega
theorem fillN_all {xs : List Nat} (h : AllB xs) (n : Nat) : AllB (fillN xs n) := (h.take n).append (AllB.zeros _)
theorem run_copy_fill {P : Program} {w : World} {B m n c ty t e : Nat} {A : Option Addr} {xs : List Nat} (ht : P.underlying t = some (.slice e)) (hs : (P.info? e).map (·.size) = some 1) (h : Bytes w B A m xs) (hB : B ≤ w.heap.size) (hn : n ≤ 140737488355328) :
    ∃ w' v, (Builtin.copy_ #[t, t] ty #[.slice (some ⟨w.heap.size, 0, none⟩) n n, .slice A m c]).run P (w.alloc (.cells (madeCells #[.int .u8 0] n) e)) = .ok v w' ∧ Own w' w.heap.size e (some ⟨w.heap.size, 0, none⟩) n n (fillN xs n) ∧ Keep w w' := by
  have ha := heap_alloc_new w (.cells (madeCells #[.int .u8 0] n) e)
  have hz : (madeCells #[Value.int .u8 0] n).toList = u8s (List.replicate n 0) := by rw [toList_madeCells_one, u8s_zeros]
  by_cases h0 : min m n = 0
  · have hf : fillN xs n = List.replicate n 0 := by
      have := h.length
      rcases (show m = 0 ∨ n = 0 by omega) with e | e
      · rw [fillN, List.eq_nil_of_length_eq_zero (this.trans e)]; simp
      · rw [fillN, e]; simp
    exact ⟨_, _, run_copy_none _ t t ty e _ A n n m c ht hs h0, hf ▸ Own.made w e n hn, (Keep.refl w).alloc _ _⟩
  · obtain ⟨b, off, rfl, _, _⟩ := h.2.2 (by omega)
    have hl : (u8s (xs.take n)).length = min m n := by rw [u8s_length, List.length_take, h.length]; omega
    have hr := run_copy_row (P := P) (w.alloc (.cells (madeCells #[.int .u8 0] n) e)) t t ty e w.heap.size 0 n n ⟨b, off, none⟩ m c (madeCells #[.int .u8 0] n) e (u8s (xs.take n)) ht hs ha hl (fun j v hv => (h.alloc hB _).cells (by omega) j v (by
      rw [u8s_get] at hv ⊢
      rw [List.getElem?_take] at hv
      split at hv
      · exact hv
      · cases hv)) (by rw [size_madeCells, hl]; simp; omega) (u8s_one _)
    refine ⟨_, _, hr, ?_, ((Keep.refl w).alloc _ _).setRow (Nat.le_refl _) ha⟩
    have hc : ((madeCells #[Value.int .u8 0] n).toList.take 0 ++ u8s (xs.take n) ++ (madeCells #[Value.int .u8 0] n).toList.drop (0 + (u8s (xs.take n)).length)) = u8s (fillN xs n) := by
      rw [List.take_zero, List.nil_append, hz, fillN, u8s_append, hl]
      congr 1
      simp only [u8s, List.map_replicate, List.drop_replicate]
      congr 1
      have := h.length
      omega
    refine ⟨⟨by rw [u8s_length, fillN_len]; simp, Or.inr ⟨w.heap.size, n, _, rfl, Nat.le_refl _, by rw [setRow_heap _ _ _ _ _ _ ha, hc], Nat.le_refl _, by unfold maxLen; omega, by simp [u8s_length, fillN_len], ?_⟩⟩, fillN_all h.all n⟩
    rw [List.toList_toArray, List.take_of_length_le (by rw [u8s_length, fillN_len]; simp)]
/-- A list of rows that is being laid: its own block new, its rows anywhere else. -/
def Lay (W w : World) (A : Option Addr) (n c : Nat) (rs : List RowV) : Prop :=
  OwnRows w W.heap.size 22 A n c rs ∧ (∀ r ∈ rs, LiesIn w (fun b => b < w.heap.size ∧ ¬ (Value.slice A n c).ownBlock = some b) r) ∧ Keep W w
namespace Lay
variable {W w w' : World} {A A2 : Option Addr} {n c m c2 : Nat} {rs news : List RowV}
theorem nothing (W : World) : Lay W W none 0 0 [] := ⟨OwnRows.none_ _ _ _, fun r hr => by simp at hr, Keep.refl W⟩
theorem keep (h : Lay W w A n c rs) : Keep W w := h.2.2
theorem later (h : Lay W w A n c rs) (k : Keep w w') : Lay W w' A n c rs :=
  ⟨h.1.keep k, fun r hr => ((h.2.1 r hr).turned (Turned.of_keep (F := fun _ => False) k) fun _ _ e => e).mono fun b hb => ⟨Nat.lt_of_lt_of_le hb.1 k.size, hb.2⟩, h.2.2.trans k⟩
theorem mat (h : Lay W w A n c rs) : Mat w ⟨A, n, c, rowsXs rs⟩ :=
  ⟨rs, RowsIn.of_own h.1 (fun r hr => (h.2.1 r hr).mono fun b hb => hb.1) (fun b hb => (h.1.lt b hb).2), rfl, ownrows_le h.1⟩
theorem added (h : Lay W w A n c rs) (hn : ∀ r ∈ news, LiesIn w (fun b => b < w.heap.size ∧ ¬ (Value.slice A n c).ownBlock = some b) r) (o2 : OwnRows w' W.heap.size 22 A2 m c2 (rs ++ news)) (hgr : w.grownBy w' (Value.slice A n c).ownBlock)
    (hb : (Value.slice A2 m c2).ownBlock = (Value.slice A n c).ownBlock ∨ (Value.slice A2 m c2).ownBlock = some w.heap.size) : Lay W w' A2 m c2 (rs ++ news) := by
  have kT : Turned (fun b => (Value.slice A n c).ownBlock = some b) w w' := Turned.of_grown hgr fun i e => e
  have key : ∀ r, LiesIn w (fun b => b < w.heap.size ∧ ¬ (Value.slice A n c).ownBlock = some b) r → LiesIn w' (fun b => b < w'.heap.size ∧ ¬ (Value.slice A2 m c2).ownBlock = some b) r := fun r hr =>
    (hr.turned kT fun b hb e => hb.2 e).mono fun b hb' => ⟨Nat.lt_of_lt_of_le hb'.1 hgr.size, fun e => by
      rcases hb with h1 | h1
      · exact hb'.2 (h1 ▸ e)
      · rw [h1] at e; injection e with e; omega⟩
  refine ⟨o2, fun r hr => ?_, h.2.2.grown hgr fun k hk => h.1.rowLe k hk⟩
  rcases List.mem_append.1 hr with hr | hr
  · exact key r (h.2.1 r hr)
  · exact key r (hn r hr)
/-- Rows that were there before lie apart. -/
theorem old (h : Lay W w A n c rs) {r : RowV} (hr : LiesIn W (fun b => b < W.heap.size) r) : LiesIn w (fun b => b < w.heap.size ∧ ¬ (Value.slice A n c).ownBlock = some b) r :=
  (hr.turned (Turned.of_keep (F := fun _ => False) h.2.2) fun _ _ e => e).mono fun b hb => ⟨Nat.lt_of_lt_of_le hb h.2.2.size, fun e => by have := h.1.rowLe b e; omega⟩
/-- Rows of one's own lie apart. -/
theorem own (h : Lay W w A n c rs) {B nr cr : Nat} {Ar : Option Addr} {xs : List Nat} (o : Own w B 5 Ar nr cr xs) : LiesIn w (fun b => b < w.heap.size ∧ ¬ (Value.slice A n c).ownBlock = some b) ⟨Ar, nr, cr, xs⟩ :=
  o.lies.mono fun b hb => ⟨(o.1.lt b hb).2, fun e => by
    rcases blocks_apart o h.1 (by decide) with z | z
    · rw [z] at hb; cases hb
    · exact z (hb.trans e.symm)⟩
end Lay
/-- append(list, row), the row in a block of one behind. -/
theorem wpList_append_layrow {ops : Array Oper} {rest : List Oper} {o : Oper} {a : Act} {w : World} {Q : Exit → Act → World → Prop} (hgd : o.guard = none) (s x : Operand) (t : TypeId)
    (ho : o.op = .call { callee := .builtin .append, args := #[s, x], argTypes := #[t, t] }) {W : World} {A : Option Addr} {n c cx : Nat} {rs : List RowV} (r : RowV) (t' : TypeId) (ht : Tryz.prog.underlying t = some (.slice 22))
    (hs : a.eval s = .slice A n c) (hL : Lay W w A n c rs) (hr : LiesIn w (fun b => b < w.heap.size ∧ ¬ (Value.slice A n c).ownBlock = some b) r) (hx0 : a.eval x = .slice (some ⟨w.heap.size, 0, none⟩) 1 cx) (hlen : n ≤ 1000000)
    (h : ∀ A2 c2 w', Lay W w' A2 (n + 1) c2 (rs ++ [r]) → wpList Tryz.prog ops Q rest (a.put o.dst (.slice A2 (n + 1) c2)) w') : wpList Tryz.prog ops Q (o :: rest) a (w.alloc (.cells #[.slice r.A r.n r.c] t')) := by
  have hL2 := hL.later ((Keep.refl w).alloc #[.slice r.A r.n r.c] t')
  refine wpList_append_row hgd s x t ho r ht infoRow hs hL2.1 hx0 (by rw [World.cell?_alloc_new]; rfl) hlen hL2.2.2.size fun A2 c2 w' h2 h3 h4 => h A2 c2 w' (hL2.added (fun y hy => ?_) h2 h3 h4)
  rw [List.mem_singleton] at hy; subst hy
  exact (hr.turned (Turned.of_keep (F := fun _ => False) ((Keep.refl w).alloc _ _)) fun _ _ e => e).mono fun b hb => ⟨Nat.lt_of_lt_of_le hb.1 (by rw [size_obj]; omega), hb.2⟩
namespace Lay
variable {W w w' : World} {A : Option Addr} {n c g i : Nat} {rs : List RowV}
theorem stored (h : Lay W w (some ⟨g, 0, none⟩) n c rs) (r : RowV) (hr : LiesIn w (fun b => b < w.heap.size ∧ ¬ (Value.slice (some ⟨g, 0, none⟩) n c).ownBlock = some b) r) (i : Nat) : Lay W (w.setCell ⟨g, i, none⟩ (.slice r.A r.n r.c)) (some ⟨g, 0, none⟩) n c (rs.set i r) := by
  have kT : Turned (fun b => b = g) w (w.setCell ⟨g, i, none⟩ (.slice r.A r.n r.c)) := Turned.set (F := fun b => b = g) _ _ _ rfl
  have key : ∀ y, LiesIn w (fun b => b < w.heap.size ∧ ¬ (Value.slice (some ⟨g, 0, none⟩) n c).ownBlock = some b) y → LiesIn (w.setCell ⟨g, i, none⟩ (.slice r.A r.n r.c)) (fun b => b < (w.setCell ⟨g, i, none⟩ (.slice r.A r.n r.c)).heap.size ∧ ¬ (Value.slice (some ⟨g, 0, none⟩) n c).ownBlock = some b) y := fun y hy =>
    (hy.turned kT fun b hb e => hb.2 (by rw [e]; rfl)).mono fun b hb => ⟨Nat.lt_of_lt_of_le hb.1 kT.size, hb.2⟩
  refine ⟨h.1.stored r, fun y hy => ?_, h.2.2.setCell (h.1.rowLe g rfl) _⟩
  rcases List.mem_or_eq_of_mem_set hy with hy | rfl
  · exact key y (h.2.1 y hy)
  · exact key _ hr
theorem row_at (h : Lay W w A n c rs) (hi : i < n) : ∃ g r, A = some ⟨g, 0, none⟩ ∧ W.heap.size ≤ g ∧ g < w.heap.size ∧ rs[i]? = some r ∧ w.cell? ⟨g, i, none⟩ = some (.slice r.A r.n r.c) ∧ w.frozen? ⟨g, i, none⟩ = false ∧ Bytes w w.heap.size r.A r.n r.xs := by
  obtain ⟨g, rfl, hg, hgl⟩ := h.1.block (by omega)
  have hil : i < rs.length := by rw [h.1.length]; exact hi
  refine ⟨g, rs[i], rfl, hg, hgl, List.getElem?_eq_getElem hil, ?_, World.ownsRow.frozenAt h.1 i, (h.2.1 _ (List.getElem_mem hil)).bytes fun b hb => hb.1⟩
  have hc := World.ownsRow.cells h.1 (g := g) rfl i (rs[i]).val (by rw [List.getElem?_map, List.getElem?_eq_getElem hil]; rfl)
  have haa : (⟨g, 0, none⟩ : Addr).add i = ⟨g, i, none⟩ := by unfold Addr.add; split <;> simp_all
  rwa [haa] at hc
end Lay
/-- A row of a matrix. -/
theorem Mat.row_at {w : World} {A : Option Addr} {n c r k i : Nat} {M : List (List Nat)} (h : Mat w ⟨A, n, c, M⟩) (s : Sz r k M) (hi : i < r) :
    ∃ b off Ay cy, A = some ⟨b, off, none⟩ ∧ b < w.heap.size ∧ w.cell? ⟨b, off + i, none⟩ = some (.slice Ay k cy) ∧ Bytes w w.heap.size Ay k (M.getD i []) ∧ k ≤ cy ∧ LiesIn w (fun b => b < w.heap.size) ⟨Ay, k, cy, M.getD i []⟩ := by
  have hn := h.cnt s
  obtain ⟨rs, e1, rfl, e3⟩ := h
  obtain ⟨b, off, y, e, hb, hy, hc, hl⟩ := e1.at_ (k := i) (by show i < n; omega)
  have hx : (rowsXs rs).getD i [] = y.xs := rowsXs_at hy
  have hyn : y.n = k := by rw [← hl.1, ← hx]; exact (s.at_ hi).1
  obtain ⟨Ay, ny, cy, ys⟩ := y
  have hyn : ny = k := hyn
  have hx : (rowsXs rs).getD i [] = ys := hx
  subst hyn; subst hx
  exact ⟨b, off, Ay, cy, e, hb, hc, hl.bytes fun _ e => e, hl.2.2.1, hl⟩
theorem Mat.take {w : World} {A : Option Addr} {n c k : Nat} {M : List (List Nat)} (h : Mat w ⟨A, n, c, M⟩) (hk : k ≤ n) : Mat w ⟨A, k, c, M.take k⟩ := by
  obtain ⟨rs, e1, rfl, e3⟩ := h
  refine ⟨rs.take k, ⟨by rw [List.length_take, e1.1]; exact Nat.min_eq_left hk, fun r hr => e1.2.1 r (List.mem_of_mem_take hr), fun hp => ?_⟩, by simp [rowsXs, List.map_take], Nat.le_trans hk e3⟩
  have hp2 : 0 < k := hp
  obtain ⟨b, off, e, hb, hc⟩ := e1.2.2 (by show 0 < n; omega)
  refine ⟨b, off, e, hb, fun i r hi => hc i r ?_⟩
  rw [List.getElem?_take] at hi
  split at hi
  · exact hi
  · cases hi
theorem Mat.drop {w : World} {A : Option Addr} {n c k : Nat} {M : List (List Nat)} (h : Mat w ⟨A, n, c, M⟩) : Mat w ⟨dropA A c k, n - k, c - k, M.drop k⟩ := by
  obtain ⟨rs, e1, rfl, e3⟩ := h
  have e3 : n ≤ c := e3
  exact ⟨rs.drop k, e1.drop e3, by simp [rowsXs, List.map_drop], by show n - k ≤ c - k; omega⟩
end Go.Proofs.YtifopodnceopjaaGreatDoor
/- Copies into rows made on the spot: stage 8's texts hold them (filled under the name of stage 7's text, which names them a second time). -/
/- The landed code of layer 7: what a basis is in memory; small functions; comparing. -/
namespace Go.Proofs.YtifopodnceopjaaGreatDoor
open Go.RowKit
set_option linter.unusedVariables false
set_option linter.unusedSimpArgs false
/-- A basis at block b: of g and s, its rows; what it holds lies in blocks of F. -/
def BasR (w : World) (F : Nat → Prop) (b g s : Nat) (B : List (List Nat)) : Prop :=
  (Bas g s B ∧ 1 ≤ g ∧ g ≤ 255 ∧ 1 ≤ s ∧ s ≤ 65535 ∧ ∀ k, F k → k < w.heap.size) ∧ F b ∧
    ∃ A n c ps, w.heap[b]? = some (.cells #[.int .i64 (g : Int), .int .i64 (s : Int), .slice A n c] 116 (0, 0)) ∧ StIn w F A n ps ∧ (∀ p ∈ ps, p.a.n = g ∧ p.b.n = s) ∧ ps.map PairV.xs = B
/-- What is read of it. -/
structure BasA (w : World) (F : Nat → Prop) (b g s : Nat) (B : List (List Nat)) (A : Option Addr) (n c : Nat) (ps : List PairV) : Prop where
  bas : Bas g s B
  g1 : 1 ≤ g
  g2 : g ≤ 255
  s1 : 1 ≤ s
  s2 : s ≤ 65535
  lt : ∀ k, F k → k < w.heap.size
  at_ : F b
  block : w.heap[b]? = some (.cells #[.int .i64 (g : Int), .int .i64 (s : Int), .slice A n c] 116 (0, 0))
  st : StIn w F A n ps
  size : ∀ p ∈ ps, p.a.n = g ∧ p.b.n = s
  xs : ps.map PairV.xs = B
section
variable {w w' : World} {F G : Nat → Prop} {b g s n c : Nat} {B : List (List Nat)} {A : Option Addr} {ps : List PairV}
theorem BasA.r (h : BasA w F b g s B A n c ps) : BasR w F b g s B := ⟨⟨h.bas, h.g1, h.g2, h.s1, h.s2, h.lt⟩, h.at_, A, n, c, ps, h.block, h.st, h.size, h.xs⟩
theorem BasR.open_ (h : BasR w F b g s B) : ∃ A n c ps, BasA w F b g s B A n c ps := by
  obtain ⟨⟨a1, a2, a3, a4, a5, a6⟩, a7, A, n, c, ps, a8, a9, a10, a11⟩ := h
  exact ⟨A, n, c, ps, a1, a2, a3, a4, a5, a6, a7, a8, a9, a10, a11⟩
theorem BasA.len (h : BasA w F b g s B A n c ps) : B.length = n := by rw [← h.xs, List.length_map, h.st.1]
theorem BasA.n_le (h : BasA w F b g s B A n c ps) : n ≤ g := by have := h.bas.length_le; rw [h.len] at this; exact this
theorem BasA.c0 (h : BasA w F b g s B A n c ps) : w.cell? ⟨b, 0, none⟩ = some (.int .i64 (g : Int)) := cell_of_row _ _ _ _ _ _ h.block
theorem BasA.c1 (h : BasA w F b g s B A n c ps) : w.cell? ⟨b, 1, none⟩ = some (.int .i64 (s : Int)) := cell_of_row _ _ _ _ _ _ h.block
theorem BasA.c2 (h : BasA w F b g s B A n c ps) : w.cell? ⟨b, 2, none⟩ = some (.slice A n c) := cell_of_row _ _ _ _ _ _ h.block
theorem BasA.turned (h : BasA w F b g s B A n c ps) (k : Turned G w w') (hd : ∀ b, F b → ¬ G b) : BasA w' F b g s B A n c ps :=
  ⟨h.bas, h.g1, h.g2, h.s1, h.s2, fun x hx => Nat.lt_of_lt_of_le (h.lt x hx) k.size, h.at_, (k.block b (h.lt b h.at_) (hd b h.at_)).trans h.block, h.st.turned k hd, h.size, h.xs⟩
theorem BasA.keep (h : BasA w F b g s B A n c ps) (k : Keep w w') : BasA w' F b g s B A n c ps := h.turned (Turned.of_keep (F := fun _ => False) k) fun _ _ e => e
theorem BasR.fine (h : BasR w F b g s B) : Bas g s B ∧ 1 ≤ g ∧ g ≤ 255 ∧ 1 ≤ s ∧ s ≤ 65535 ∧ ∀ k, F k → k < w.heap.size := h.1
theorem BasR.turned (h : BasR w F b g s B) (k : Turned G w w') (hd : ∀ b, F b → ¬ G b) : BasR w' F b g s B := by
  obtain ⟨A, n, c, ps, h⟩ := h.open_
  exact (h.turned k hd).r
theorem BasR.keep (h : BasR w F b g s B) (k : Keep w w') : BasR w' F b g s B := h.turned (Turned.of_keep (F := fun _ => False) k) fun _ _ e => e
end
set_option maxRecDepth 100000 in
theorem bnew_in (g s : Nat) (h1 : 1 ≤ g) (h2 : g ≤ 255) (h3 : 1 ≤ s) (h4 : s ≤ 65535) (w : World) :
    Calls Tryz.prog 17 #[.int .i64 (g : Int), .int .i64 (s : Int)] w fun e w' => ∃ b F, e = .returned (.tuple #[.pointer (some ⟨b, 0, none⟩), .int .i64 0]) ∧ BasR w' F b g s [] ∧ (∀ k, F k → w.heap.size ≤ k) ∧ Keep w w' := by
  have b1 : decide ((g : Int) < 1) = false := decide_eq_false (by omega)
  have b2 : decide ((255 : Int) < (g : Int)) = false := decide_eq_false (by omega)
  have b3 : decide ((s : Int) < 1) = false := decide_eq_false (by omega)
  have b4 : decide ((65535 : Int) < (s : Int)) = false := decide_eq_false (by omega)
  have H := Lib.hid (And.intro h1 (And.intro h2 (And.intro h3 h4)))
  clear h1 h2 h3 h4
  go_enter Tryz.func17, Tryz.ntmps17
  go_wp2_with fail
  go_ret2
  have hk : Keep w (w.alloc (.cells #[.int .i64 (g : Int), .int .i64 (s : Int), .slice none 0 0] 116)) := (Keep.refl w).alloc _ _
  refine ⟨w.heap.size, fun k => k = w.heap.size, rfl, ⟨⟨Bas.nil g s, H.out.1, H.out.2.1, H.out.2.2.1, H.out.2.2.2, fun k hk => ?_⟩, rfl, none, 0, 0, [], heap_alloc_new w _, StIn.nothing _ _ _, fun p hp => by simp at hp, rfl⟩, fun k e => by rw [e]; exact Nat.le_refl _, hk⟩
  subst hk
  simp
set_option maxRecDepth 100000 in
theorem bmade_eq (b g : Nat) (w : World) (c0 : w.cell? ⟨b, 0, none⟩ = some (.int .i64 (g : Int))) (hg : 1 ≤ g) : Calls Tryz.prog 56 #[.pointer (some ⟨b, 0, none⟩)] w fun e w' => e = .returned (.bool true) ∧ w = w' := by
  have b1 : decide ((0 : Int) < (g : Int)) = true := decide_eq_true (by omega)
  have b2 : decide (0 < g) = true := decide_eq_true (by omega)
  clear hg
  go_enter Tryz.func56, Tryz.ntmps56
  go_wp2_with fail
  go_ret
  exact ⟨rfl, rfl⟩
section
variable {w : World} {F : Nat → Prop} {b g s : Nat} {B : List (List Nat)}
set_option maxRecDepth 100000 in
theorem brank_eq (h : BasR w F b g s B) : Calls Tryz.prog 24 #[.pointer (some ⟨b, 0, none⟩)] w fun e w' => e = .returned (.int .i64 (B.length : Int)) ∧ w = w' := by
  obtain ⟨A, n, c, ps, h⟩ := h.open_
  have c2 := h.c2
  have H := Lib.hid h
  rw [h.len]
  clear h
  go_enter Tryz.func24, Tryz.ntmps24
  go_wp2_with fail
  refine (bmade_eq b g _ H.out.c0 H.out.g1).mono ?_
  rintro e w' ⟨rfl, rfl⟩
  go_wp2_with fail
  go_ret
  exact ⟨rfl, rfl⟩
end
set_option maxRecDepth 100000 in
theorem bcoefs_any (p : PairV) (w : World) : Calls Tryz.prog 58 #[p.agg] w fun e w' => e = .returned (.slice p.a.A p.a.n p.a.c) ∧ Keep w w' := by
  obtain ⟨⟨A1, n1, c1, x1⟩, ⟨A2, n2, c2, x2⟩⟩ := p
  show Calls _ _ #[.agg #[.slice A1 n1 c1, .slice A2 n2 c2]] _ _
  go_enter Tryz.func58, Tryz.ntmps58
  go_wp2_with fail
  go_ret
  exact ⟨rfl, (Keep.refl w).alloc _ _⟩
set_option maxRecDepth 100000 in
theorem bpayload_any (p : PairV) (w : World) : Calls Tryz.prog 63 #[p.agg] w fun e w' => e = .returned (.slice p.b.A p.b.n p.b.c) ∧ Keep w w' := by
  obtain ⟨⟨A1, n1, c1, x1⟩, ⟨A2, n2, c2, x2⟩⟩ := p
  show Calls _ _ #[.agg #[.slice A1 n1 c1, .slice A2 n2 c2]] _ _
  go_enter Tryz.func63, Tryz.ntmps63
  go_wp2_with fail
  go_ret
  exact ⟨rfl, (Keep.refl w).alloc _ _⟩
end Go.Proofs.YtifopodnceopjaaGreatDoor
/- The landed code of layer 7: two lists of rows compared. -/
namespace Go.Proofs.YtifopodnceopjaaGreatDoor
open Go.RowKit
set_option linter.unusedVariables false
set_option linter.unusedSimpArgs false
theorem StIn.lies {w : World} {F : Nat → Prop} {A : Option Addr} {n : Nat} {ps : List PairV} (h : StIn w F A n ps) (hF : ∀ b, F b → b < w.heap.size) {k : Nat} {p : PairV} (hp : ps[k]? = some p) : Bytes w w.heap.size p.a.A p.a.n p.a.xs ∧ Bytes w w.heap.size p.b.A p.b.n p.b.xs := by
  have := h.2.1 p (List.mem_of_getElem? hp)
  exact ⟨this.1.bytes hF, this.2.bytes hF⟩
end Go.Proofs.YtifopodnceopjaaGreatDoor
/- One side of the rows of a basis: what is left of a row, and where a new one stands. -/
namespace Go.Proofs.YtifopodnceopjaaGreatDoor
open Lin
set_option linter.unusedVariables false
theorem getD_take {l : List Nat} {g i : Nat} (h : i < g) : (l.take g).getD i 0 = l.getD i 0 := by
  rw [List.getD_eq_getElem?_getD, List.getD_eq_getElem?_getD, List.getElem?_take, if_pos h]
theorem getD_drop (l : List Nat) (g i : Nat) : (l.drop g).getD i 0 = l.getD (g + i) 0 := by
  rw [List.getD_eq_getElem?_getD, List.getD_eq_getElem?_getD, List.getElem?_drop]
theorem getD_map_side (f : List Nat → List Nat) (h0 : f [] = []) (B : List (List Nat)) (i : Nat) : (B.map f).getD i [] = f (B.getD i []) := by
  rw [List.getD_eq_getElem?_getD, List.getD_eq_getElem?_getD, List.getElem?_map]
  cases B[i]? with
  | none => exact h0.symm
  | some x => rfl
theorem tab_take (g s : Nat) (f : Nat → Nat) : (tab (g + s) f).take g = tab g f := list_ext (by rw [List.length_take, tab_length, tab_length]; omega) fun i hi => by
  rw [List.length_take, tab_length] at hi
  rw [getD_take (by omega), tab_getD, tab_getD, if_pos (by omega), if_pos (by omega)]
theorem tab_drop (g s : Nat) (f : Nat → Nat) : (tab (g + s) f).drop g = tab s fun j => f (g + j) := list_ext (by rw [List.length_drop, tab_length, tab_length]; omega) fun i hi => by
  rw [List.length_drop, tab_length] at hi
  rw [getD_drop, tab_getD, tab_getD, if_pos (by omega), if_pos (by omega)]
/-- A row, and of k rows each as often as its number says, added. -/
def plusN (N : Nat) (x : List Nat) (rows : List (List Nat)) (D : List Nat) (k : Nat) : List Nat := tab N fun j => x.getD j 0 ^^^ vCombAt rows D k j
theorem plusN_len (N : Nat) (x : List Nat) (rows : List (List Nat)) (D : List Nat) (k : Nat) : (plusN N x rows D k).length = N := tab_length _ _
theorem combAt_take (B : List (List Nat)) (D : List Nat) (k : Nat) {g j : Nat} (h : j < g) : vCombAt (B.map (List.take g)) D k j = vCombAt B D k j := sumX_congr fun i _ => by
  rw [getD_map_side (List.take g) (by simp), getD_take h]
theorem combAt_drop (B : List (List Nat)) (D : List Nat) (k g j : Nat) : vCombAt (B.map (List.drop g)) D k j = vCombAt B D k (g + j) := sumX_congr fun i _ => by
  rw [getD_map_side (List.drop g) (by simp), getD_drop]
theorem plusN_take (g s : Nat) (x : List Nat) (B : List (List Nat)) (D : List Nat) (k : Nat) : (plusN (g + s) x B D k).take g = plusN g (x.take g) (B.map (List.take g)) D k := by
  rw [plusN, tab_take]
  exact tab_congr fun j hj => by rw [getD_take hj, combAt_take B D k hj]
theorem plusN_drop (g s : Nat) (x : List Nat) (B : List (List Nat)) (D : List Nat) (k : Nat) : (plusN (g + s) x B D k).drop g = plusN s (x.drop g) (B.map (List.drop g)) D k := by
  rw [plusN, tab_drop]
  exact tab_congr fun j _ => by rw [getD_drop, combAt_drop]
theorem vComb_plusN (N : Nat) (B : List (List Nat)) (D : List Nat) (k : Nat) : plusN N (List.replicate N 0) B D k = vComb N B D k := tab_congr fun j hj => by
  rw [List.getD_eq_getElem?_getD, List.getElem?_replicate, if_pos hj]; exact Nat.zero_xor _
theorem vAddS_take (g s : Nat) (m u : List Nat) (c : Nat) : (vAddS (g + s) m u c).take g = vAddS g (m.take g) (u.take g) c := by
  rw [vAddS, tab_take]; exact tab_congr fun j hj => by rw [getD_take hj, getD_take hj]
theorem vAddS_drop (g s : Nat) (m u : List Nat) (c : Nat) : (vAddS (g + s) m u c).drop g = vAddS s (m.drop g) (u.drop g) c := by
  rw [vAddS, tab_drop]; exact tab_congr fun j _ => by rw [getD_drop, getD_drop]
theorem vScale_take (g s : Nat) (m : List Nat) (c : Nat) : (vScale (g + s) m c).take g = vScale g (m.take g) c := by
  rw [vScale, tab_take]; exact tab_congr fun j hj => by rw [getD_take hj]
theorem vScale_drop (g s : Nat) (m : List Nat) (c : Nat) : (vScale (g + s) m c).drop g = vScale s (m.drop g) c := by
  rw [vScale, tab_drop]; exact tab_congr fun j _ => by rw [getD_drop]
theorem vAddS_none {n : Nat} {m : List Nat} (u : List Nat) (h : m.length = n) (hu : AllB u) : vAddS n m u 0 = m := by
  subst h
  refine Eq.trans (tab_congr fun j _ => ?_) (tab_self m)
  rw [mul_comm' _ 0 (hu.getD j) (by decide), mul_zero_left, Nat.xor_zero]
section
variable {g s : Nat} {B : List (List Nat)} {row : List Nat}
/-- What is left of a row. -/
theorem leftB_eq {l : Nat → Nat} (h : Bas g s B) (hr : Red B.length (fn B) l) (hl : row.length = g + s) (ha : AllB row) : leftB (g + s) B row = plusN (g + s) row B (tab B.length fun i => row.getD (l i) 0) B.length := by
  have hD : AllB (tab B.length fun i => row.getD (l i) 0) := fun x hx => by
    obtain ⟨i, _, rfl⟩ := List.mem_map.1 hx
    exact ha.getD _
  have hv := vec_vComb h.sz hD
  have hva := vComb_all h.sz hD
  have hpa : AllB (plusN (g + s) row B (tab B.length fun i => row.getD (l i) 0) B.length) := fun x hx => by
    obtain ⟨j, hj, rfl⟩ := List.mem_map.1 hx
    have := hva.getD j
    rw [vComb, tab_getD, if_pos (List.mem_range.1 hj)] at this
    exact xor_lt (ha.getD _) this
  refine vec_inj (by rw [left_len hl, plusN_len]) (left_all h.ok ha) hpa ?_
  rw [left_vec h.ok hr hl ha]
  funext j
  apply By.ext
  rw [vec_v hpa, add_v, vec_v ha, plusN, tab_getD]
  have e : (comb B.length (fn B) (fun i => vec row (l i)) j).v = (vComb (g + s) B (tab B.length fun i => row.getD (l i) 0) B.length).getD j 0 := by
    rw [← vec_v hva, hv]
    congr 1
    exact sm_congr fun i hi => by
      show vec row (l i) * _ = vec (tab B.length fun i => row.getD (l i) 0) i * _
      congr 1
      show byte _ = byte _
      rw [tab_getD, if_pos hi]
  rw [e, vComb, tab_getD]
  by_cases hj : j < g + s
  · rw [if_pos hj, if_pos hj]
  · rw [if_neg hj, if_neg hj, List.getD_eq_getElem?_getD, List.getElem?_eq_none (by omega)]; rfl
theorem lead_col {l : Nat → Nat} (h : Bas g s B) (hr : Red B.length (fn B) l) {i : Nat} (hi : i < B.length) (hlg : l i < g) : vLead g ((B.getD i []).take g) = (l i : Int) := by
  have hw := h.ok.at_ hi
  have h1 : (B.getD i []).getD (l i) 0 = 1 := by
    have := congrArg By.v (hr.one i hi)
    rwa [show (fn B i (l i)).v = (B.getD i []).getD (l i) 0 from vec_v hw.2 _] at this
  have h0 : ∀ j, j < l i → (B.getD i []).getD j 0 = 0 := fun j hj => by
    have := congrArg By.v (hr.low i j hi hj)
    rwa [show (fn B i j).v = (B.getD i []).getD j 0 from vec_v hw.2 _] at this
  exact vLead_at hlg (by rw [getD_take hlg, h1]; decide) fun j hj => by rw [getD_take (by omega), h0 j hj]
/-- Where a new row stands. -/
theorem insB_at {L q : Nat} (h : Bas g s B) (hl : row.length = g + s) (ha : AllB row) (hL : vLead g (leftB (g + s) B row) = (L : Int)) (hq : q ≤ B.length)
    (hlo : ∀ i, i < q → ∃ j, j < L ∧ (B.getD i []).getD j 0 ≠ 0) (hhi : q < B.length → ∀ j, j < L → (B.getD q []).getD j 0 = 0) :
    insB g s B row = (clearedL (g + s) B (vScale (g + s) (leftB (g + s) B row) (invN ((leftB (g + s) B row).getD L 0))) L).take q ++ [vScale (g + s) (leftB (g + s) B row) (invN ((leftB (g + s) B row).getD L 0))] ++ (clearedL (g + s) B (vScale (g + s) (leftB (g + s) B row) (invN ((leftB (g + s) B row).getD L 0))) L).drop q := by
  have hneg : ¬ vLead g (leftB (g + s) B row) < 0 := by rw [hL]; omega
  have hL2 : vLead (g + s) (leftB (g + s) B row) = (L : Int) := (vLead_less (by omega) hneg).trans hL
  obtain ⟨l, hr, hlg⟩ := h.leads
  have hLt : L < g ∧ (leftB (g + s) B row).getD L 0 ≠ 0 := by
    obtain ⟨L', h1, h2⟩ := vLead_some hneg
    rw [hL] at h2
    obtain rfl : L = L' := by omega
    obtain ⟨a, b, _⟩ := (vLeadTo_some _ g L).1 h1
    exact ⟨a, b⟩
  have cell : ∀ i, i < B.length → ∀ j, (fn B i j).v = (B.getD i []).getD j 0 := fun i hi j => vec_v (h.ok.at_ hi).2 _
  have lo2 : ∀ i, i < q → ¬ (L : Int) < vLead (g + s) (B.getD i []) := fun i hi => by
    rw [h.lead_at hr (show i < B.length by omega)]
    obtain ⟨j, hj, h0⟩ := hlo i hi
    intro hlt
    refine h0 ?_
    rw [← cell i (by omega), hr.low i j (by omega) (by omega)]; rfl
  have hi2 : q < B.length → (L : Int) < vLead (g + s) (B.getD q []) := fun hq2 => by
    rw [h.lead_at hr hq2]
    rcases Nat.lt_trichotomy L (l q) with e | e | e
    · omega
    · exfalso
      have := left_nought h.ok hr hl ha hq2
      rw [← e] at this
      exact hLt.2 ((vec_zero_iff (left_all h.ok ha) L).1 this)
    · exfalso
      have h1 := hhi hq2 (l q) e
      rw [← cell q hq2, hr.one q hq2] at h1
      exact absurd h1 (by decide)
  have hn : ¬ inB g s B row := hneg
  rw [insB_new hn]
  obtain ⟨v, hv⟩ : ∃ v, leftB (g + s) B row = v := ⟨_, rfl⟩
  have hv' : clearTo (g + s) B row B.length = v := hv
  rw [hv] at hL2 hLt ⊢
  have hcl : ∀ u : List Nat, (clearedL (g + s) B u L).length = B.length := fun u => by simp [clearedL]
  rw [insertN]
  simp only [hv', hL2, Int.toNat_natCast]
  rw [if_neg (show ¬ (L : Int) < 0 by omega)]
  have hlay := layTo_eq (u := vScale (g + s) v (invN (v.getD L 0))) hq lo2 hi2 B.length (Nat.le_refl _)
  rw [hlay]
  by_cases hc : B.length ≤ q
  · obtain rfl : q = B.length := by omega
    rw [if_pos (Nat.le_refl _)]
    simp only [if_neg (show ¬ (false = true) by decide)]
    rw [List.drop_of_length_le (by rw [hcl]; omega), List.append_nil]
  · rw [if_neg hc]
    simp only [if_pos]
    rw [List.take_of_length_le (l := clearedL (g + s) B _ L) (i := B.length) (by rw [hcl]; omega)]
end
end Go.Proofs.YtifopodnceopjaaGreatDoor
/- The landed code of layer 7: a row and rows, each as often as its number says, added (one side of them). -/
namespace Go.Proofs.YtifopodnceopjaaGreatDoor
open Go.RowKit
set_option linter.unusedVariables false
set_option linter.unusedSimpArgs false
theorem OwnRows.litN (w : World) (t : TypeId) (n : Nat) (rs : List RowV) (cs : Array Value) (hc : cs = (rs.map RowV.val).toArray) (hl : rs.length = n) (hn : n ≤ 1000000) : OwnRows (w.alloc (.cells cs t)) w.heap.size t (some ⟨w.heap.size, 0, none⟩) n n rs := by
  subst hc
  have h := World.ownsRow_lit (w := w) (base := w.heap.size) (e := t) (size := 1) (rs.map RowV.val).toArray n (Nat.le_refl _) (by unfold maxLen; omega) (by simp [hl])
  simpa [OwnRows] using h
theorem OwnRows.lowerB {w : World} {base base' n c : Nat} {e : TypeId} {A : Option Addr} {rs : List RowV} (h : OwnRows w base e A n c rs) (hb : base' ≤ base) : OwnRows w base' e A n c rs := by
  refine ⟨h.1, ?_⟩
  rcases h.2 with h1 | ⟨g, cap, cur, hv, hg, r⟩
  · exact Or.inl h1
  · exact Or.inr ⟨g, cap, cur, hv, Nat.le_trans hb hg, r⟩
theorem OwnRows.grownB {w w' : World} {base n c : Nat} {e : TypeId} {A : Option Addr} {rs : List RowV} {row : Option Nat} (h : OwnRows w base e A n c rs) (hg : w.grownBy w' row) (hn : (Value.slice A n c).ownBlock = none ∨ (Value.slice A n c).ownBlock ≠ row) : OwnRows w' base e A n c rs := h.kept hg hn
theorem blocks_apart2 {w : World} {base base' n n' c c' : Nat} {e e' : TypeId} {A A' : Option Addr} {xs : List Nat} {rs : List RowV} (h' : OwnRows w base' e' A' n' c' rs) (h : Own w base e A n c xs) (he : e ≠ e') :
    (Value.slice A' n' c').ownBlock = none ∨ (Value.slice A' n' c').ownBlock ≠ (Value.slice A n c).ownBlock := by
  rcases blocks_apart h h' he with z | z
  · cases hb : (Value.slice A' n' c').ownBlock with
    | none => exact Or.inl rfl
    | some g => exact Or.inr (by rw [z]; simp)
  · exact Or.inr fun e => z e.symm
theorem combAt_snoc {R : List (List Nat)} {cs : List Nat} {m : Nat} (h1 : R.length = m) (h2 : cs.length = m) (x : List Nat) (c j : Nat) : vCombAt (R ++ [x]) (cs ++ [c]) (m + 1) j = vCombAt R cs m j ^^^ mulN (x.getD j 0) c := by
  rw [vCombAt, sumX]
  have e1 : (R ++ [x]).getD m [] = x := by rw [List.getD_eq_getElem?_getD, List.getElem?_append_right (by omega), h1, Nat.sub_self]; rfl
  have e2 : (cs ++ [c]).getD m 0 = c := by rw [List.getD_eq_getElem?_getD, List.getElem?_append_right (by omega), h2, Nat.sub_self]; rfl
  rw [e1, e2]
  congr 1
  exact sumX_congr fun i hi => by
    have e3 : (R ++ [x]).getD i [] = R.getD i [] := by rw [List.getD_eq_getElem?_getD, List.getElem?_append_left (by omega), ← List.getD_eq_getElem?_getD]
    have e4 : (cs ++ [c]).getD i 0 = cs.getD i 0 := by rw [List.getD_eq_getElem?_getD, List.getElem?_append_left (by omega), ← List.getD_eq_getElem?_getD]
    rw [e3, e4]
/-- What is laid for the sum. -/
structure PlusI (w wr : World) (N k m : Nat) (xr : List Nat) (R : List (List Nat)) (D : List Nat) (A1 : Option Addr) (c1 : Nat) (A2 : Option Addr) (c2 : Nat) (rs : List RowV) (cs : List Nat) : Prop where
  own1 : OwnRows wr w.heap.size 22 A1 m c1 rs
  own2 : Own wr w.heap.size 5 A2 m c2 cs
  rows : ∀ r ∈ rs, Bytes w w.heap.size r.A N r.xs ∧ r.n = N ∧ N ≤ r.c
  pos : 0 < m
  le : m ≤ k + 1
  sum : ∀ j, vCombAt (rowsOf rs) cs m j = xr.getD j 0 ^^^ vCombAt R D k j
  keep : Keep w wr
section
variable {w wr w' : World} {N k m : Nat} {xr : List Nat} {R : List (List Nat)} {D : List Nat} {A1 : Option Addr} {c1 : Nat} {A2 : Option Addr} {c2 : Nat} {rs : List RowV} {cs : List Nat}
theorem PlusI.later (h : PlusI w wr N k m xr R D A1 c1 A2 c2 rs cs) (kp : Keep wr w') : PlusI w w' N k m xr R D A1 c1 A2 c2 rs cs := ⟨h.own1.keep kp, h.own2.keep kp, h.rows, h.pos, h.le, h.sum, h.keep.trans kp⟩
theorem PlusI.skip (h : PlusI w wr N k m xr R D A1 c1 A2 c2 rs cs) (hd : D.getD k 0 = 0) : PlusI w wr N (k + 1) m xr R D A1 c1 A2 c2 rs cs :=
  ⟨h.own1, h.own2, h.rows, h.pos, by have := h.le; omega, fun j => by rw [h.sum j, vCombAt, vCombAt, sumX, hd, mul_zero_right, Nat.xor_zero], h.keep⟩
theorem PlusI.sum_next (h : PlusI w wr N k m xr R D A1 c1 A2 c2 rs cs) {r : RowV} (hr : R.getD k [] = r.xs) (j : Nat) : vCombAt (rowsOf (rs ++ [r])) (cs ++ [D.getD k 0]) (m + 1) j = xr.getD j 0 ^^^ vCombAt R D (k + 1) j := by
  have e : rowsOf (rs ++ [r]) = rowsOf rs ++ [r.xs] := by simp [rowsOf]
  rw [e, combAt_snoc (by rw [rowsOf, List.length_map, h.own1.length]) h.own2.length, h.sum j, ← hr, Nat.xor_assoc]; rfl
theorem PlusI.comb (h : PlusI w wr N k m xr R D A1 c1 A2 c2 rs cs) : combOf N rs cs = plusN N xr R D k ∧ combErr N rs = 0 := by
  have hf : ∀ r ∈ rs, r.n = N := fun r hr => (h.rows r hr).2.1
  rw [combOf, combErr, if_pos hf, if_pos hf]
  refine ⟨?_, rfl⟩
  rw [h.own1.length]
  exact tab_congr fun j _ => h.sum j
theorem PlusI.rowsAt (h : PlusI w wr N k m xr R D A1 c1 A2 c2 rs cs) (hN : N ≤ 65535) : RowsAt wr wr.heap.size A1 m rs := h.own1.rows fun r hr => by
  obtain ⟨a, b, c⟩ := h.rows r hr
  rw [b]
  exact ⟨(a.below (Below.mono h.keep (Nat.le_refl _))).mono h.keep.size, by omega, c⟩
theorem PlusI.head (h : PlusI w wr N k m xr R D A1 c1 A2 c2 rs cs) : ∃ r0, rs[0]? = some r0 ∧ r0.n = N := by
  have hl := h.own1.length
  have hp := h.pos
  exact ⟨_, List.getElem?_eq_getElem (by omega), (h.rows _ (List.getElem_mem (by omega))).2.1⟩
end
set_option maxRecDepth 100000 in
set_option maxHeartbeats 4000000 in
theorem bplus_any (f : Nat) (sel : PairV → RowV) (eg : ∀ args w, (callFunc f args).run Tryz.prog w = .ok (.enter f args) w) (b n c N cD cr : Nat) (A AD Ar : Option Addr) (xr : List Nat) (r : PairV) (F : Nat → Prop) (ps : List PairV) (D : List Nat) (w : World)
    (hfr : ∀ w1, Calls Tryz.prog f #[r.agg] w1 fun e w' => e = .returned (.slice Ar N cr) ∧ Keep w1 w')
    (hfp : ∀ p ∈ ps, ∀ w1, Calls Tryz.prog f #[p.agg] w1 fun e w' => e = .returned (.slice (sel p).A N (sel p).c) ∧ Keep w1 w')
    (hb : b < w.heap.size) (c2 : w.cell? ⟨b, 2, none⟩ = some (.slice A n c)) (hst : StIn w F A n ps) (hF : ∀ b, F b → b < w.heap.size) (hr : Bytes w w.heap.size Ar N xr) (hrc : N ≤ cr)
    (hrow : ∀ p ∈ ps, Bytes w w.heap.size (sel p).A N (sel p).xs ∧ N ≤ (sel p).c) (hD : Bytes w w.heap.size AD n D) (hn : n ≤ 255) (hN : N ≤ 65535) :
    Calls Tryz.prog 69 #[.pointer (some ⟨b, 0, none⟩), r.agg, .slice AD n cD, .func (.func f) #[] #[]] w fun e w' => ∃ A' c', e = .returned (.slice A' N c') ∧ Own w' w.heap.size 5 A' N c' (plusN N xr (ps.map fun p => (sel p).xs) D n) ∧ Keep w w' := by
  obtain ⟨⟨A1, n1, c1, x1⟩, ⟨A2, n2, c2', x2⟩⟩ := r
  have HFR : Hid (∀ w1, Calls Tryz.prog f #[.agg #[.slice A1 n1 c1, .slice A2 n2 c2']] w1 fun e w' => e = .returned (.slice Ar N cr) ∧ Keep w1 w') := hfr
  show Calls _ _ #[_, .agg #[.slice A1 n1 c1, .slice A2 n2 c2'], _, _] _ _
  have HFP := Lib.hid hfp
  have HST := Lib.hid hst
  have HFF := Lib.hid hF
  have HRB := Lib.hid hr
  have HROW := Lib.hid hrow
  have HD := Lib.hid hD
  have HC2 := Lib.hid c2
  have hall := hr.all
  have HALL := Lib.hid hall
  clear hfr hfp hst hF hr hrow hD c2 hall
  go_enter Tryz.func69, Tryz.ntmps69
  go_wp2_with fail
  refine (HFR.out _).mono ?_
  rintro e w1 ⟨rfl, k1⟩
  have K1 : Hid (Keep w w1) := ((Keep.refl w).alloc _ _).trans k1
  clear k1
  go_wp2_with fail
  have hlit : PlusI w ((w1.alloc (.cells #[.slice Ar N cr] 22)).alloc (.cells #[.int .u8 1] 5)) N 0 1 xr (ps.map fun p => (sel p).xs) D (some ⟨w1.heap.size, 0, none⟩) 1 (some ⟨w1.heap.size + 1, 0, none⟩) 1 [⟨Ar, N, cr, xr⟩] [1] := by
    have o1 := (OwnRows.litN w1 22 1 [⟨Ar, N, cr, xr⟩] #[.slice Ar N cr] rfl rfl (by decide)).lowerB K1.out.size
    have o2 := (Own.lit (w1.alloc (.cells #[.slice Ar N cr] 22)) 5 1 [1] #[.int .u8 1] rfl rfl (by decide) (by decide)).lower (base' := w.heap.size) (by have := K1.out.size; simp; omega)
    rw [show (w1.alloc (.cells #[.slice Ar N cr] 22)).heap.size = w1.heap.size + 1 by simp] at o2
    refine ⟨o1.alloc _, o2, fun r hr => ?_, by decide, by decide, fun j => ?_, (K1.out.alloc _ _).alloc _ _⟩
    · obtain rfl := List.mem_singleton.1 hr
      exact ⟨HRB.out, rfl, hrc⟩
    · show 0 ^^^ mulN (xr.getD j 0) 1 = _ ^^^ 0
      rw [mul_one_right _ (HALL.out.getD j), Nat.zero_xor, Nat.xor_zero]
  have HLIT := Lib.hid hlit
  clear hlit
  go_loopw [9, 10, 22] (fun u v i wr => ∃ (k m d1 d2 : Nat) (V1 V2 : Option Addr) (rs : List RowV) (cs : List Nat), k ≤ n ∧ i = .int .i64 k ∧ u = .slice V1 m d1 ∧ v = .slice V2 m d2 ∧ PlusI w wr N k m xr (ps.map fun p => (sel p).xs) D V1 d1 V2 d2 rs cs) (fun _ _ i _ => n - (intOf i).toNat)
  case atStart => exact ⟨0, 1, 1, 1, _, _, _, _, by omega, rfl, rfl, rfl, HLIT.out⟩
  case round =>
    obtain ⟨k, m, d1, d2, V1, V2, rs, cs, hk, rfl, rfl, rfl, hI⟩ := hrel
    have HI := Lib.hid hI
    have KI := Lib.hid hI.keep
    have hm := hI.le
    clear hI HLIT K1
    by_cases hlt : k < n
    · obtain ⟨bD, oD, rfl, hbD, hcD⟩ := (HD.out.keep (Nat.le_refl _) KI.out).at_ hlt
      have e1 : (0 : Int) ≤ (k : Int) := Int.natCast_nonneg _
      have e2 : (k : Int) < (n : Int) := by omega
      have hx := HD.out.all.getD k
      by_cases hz : D.getD k 0 = 0
      · have HZ := Lib.hid hz
        rw [hz] at hcD
        clear hz hx
        go_wp2_with fail
        go_roundw
        case rel => exact ⟨k + 1, m, d1, d2, _, _, _, _, by omega, by go_num, rfl, rfl, HI.out.skip HZ.out⟩
        case measure => simp [intOf]; omega
      · obtain ⟨y, hy⟩ : ∃ y, D.getD k 0 = y := ⟨_, rfl⟩
        rw [hy] at hcD hz hx
        have HY := Lib.hid hy
        have b1 : ((y : Int) != 0) = true := by rw [bne_iff_ne]; omega
        obtain ⟨b2, o2, p, rfl, hb2, hp, hc1, hc2, _⟩ := (HST.out.keep KI.out).at_ hlt
        have HP := Lib.hid hp
        have hc3 := (KI.out.cell (p := ⟨b, 2, none⟩) hb).trans HC2.out
        have HX := Lib.hid hx
        clear hy hz hp hb2 hx
        go_wp2_with fail
        refine (HFP.out p (List.mem_of_getElem? HP.out) _).mono ?_
        rintro e w2 ⟨rfl, k2⟩
        have K2 := Lib.hid k2
        have HI2 := Lib.hid (HI.out.later k2)
        clear k2 HI hc1 hc2 hcD hc3
        go_wp2_with (at_builtin; refine wpList_append_row rfl _ _ 25 rfl ⟨(sel p).A, N, (sel p).c, (sel p).xs⟩ Tryz.underlying25 infoRow rfl (HI2.out.own1.alloc _) rfl (by rw [World.cell?_alloc_at _ _ _ _ (by simp)]; rfl) (by omega) (by have := HI2.out.keep.size; simp; omega) ?_)
        intro A4 c4 w4 hl4 hgr4 _
        have HK4 := Lib.hid (Keep.grown (Keep.alloc HI2.out.keep _ _) hgr4 (HI2.out.own1.rowLe))
        have HD4 := Lib.hid ((HI2.out.own2.alloc (.cells #[.slice (sel p).A N (sel p).c] 22)).grown hgr4 (blocks_apart (HI2.out.own2.alloc (.cells #[.slice (sel p).A N (sel p).c] 22)) (HI2.out.own1.alloc (.cells #[.slice (sel p).A N (sel p).c] 22)) (by decide)))
        have HL4 := Lib.hid hl4
        clear hl4 hgr4
        go_wp2_with (at_builtin; refine wpList_append_bytes rfl _ _ 22 rfl Tryz.underlying22 info5 rfl (HD4.out.alloc _) rfl (Bytes.one w4 y HX.out 5) (by omega) (by have := HK4.out.size; simp; omega) ?_)
        intro A6 c6 w6 hd6 hgr6 _
        have HK6 := Lib.hid (Keep.grown (Keep.alloc HK4.out _ _) hgr6 (HD4.out.rowLe))
        have HL6 := Lib.hid ((HL4.out.alloc (.cells #[.int .u8 (y : Int)] 5)).grownB hgr6 (blocks_apart2 (HL4.out.alloc (.cells #[.int .u8 (y : Int)] 5)) (HD4.out.alloc (.cells #[.int .u8 (y : Int)] 5)) (by decide)))
        have HI6 : Hid (PlusI w w6 N (k + 1) (m + 1) xr (ps.map fun p => (sel p).xs) D A4 c4 A6 c6 (rs ++ [⟨(sel p).A, N, (sel p).c, (sel p).xs⟩]) (cs ++ [y])) := by
          refine ⟨HL6.out, hd6, fun r hr => ?_, by omega, by omega, fun j => ?_, HK6.out⟩
          · rcases List.mem_append.1 hr with h | h
            · exact HI2.out.rows r h
            · obtain rfl := List.mem_singleton.1 h
              have := HROW.out p (List.mem_of_getElem? HP.out)
              exact ⟨this.1, rfl, this.2⟩
          · rw [← HY.out]
            refine HI2.out.sum_next ?_ j
            rw [List.getD_eq_getElem?_getD, List.getElem?_map, HP.out]; rfl
        clear hd6 hgr6 HL6 HK6 HD4 HL4 HK4
        go_wp2_with fail
        go_roundw
        case rel => exact ⟨k + 1, m + 1, c4, c6, A4, A6, _, _, by omega, by go_num, rfl, rfl, HI6.out⟩
        case measure => simp [intOf]; omega
    · obtain rfl : k = n := by omega
      obtain ⟨r0, hr0, hrn⟩ := HI.out.head
      have HC := Lib.hid HI.out.comb
      have hvc := vcomb_any _ _ m d1 d2 V1 V2 rs cs wr (HI.out.rowsAt hN) HI.out.own2.bytes (Nat.le_refl _) (Nat.le_refl _) (by have := HI.out.pos; omega) (by omega) r0 hr0
      rw [hrn, HC.out.1, HC.out.2] at hvc
      have HV := Lib.hid hvc
      clear hvc hr0 hrn
      go_wp2_with fail
      refine HV.out.mono ?_
      rintro e w3 ⟨A3, n3, c3, rfl, o3, k3⟩
      obtain rfl : n3 = N := o3.length.symm.trans (plusN_len _ _ _ _ _)
      have O3 := Lib.hid o3
      have K3 := Lib.hid k3
      clear o3 k3
      go_wp2_with fail
      go_ret
      exact ⟨A3, c3, rfl, O3.out.lower KI.out.size, KI.out.trans K3.out⟩
end Go.Proofs.YtifopodnceopjaaGreatDoor
/- The landed code of layer 7: what tells what is left of a row. -/
namespace Go.Proofs.YtifopodnceopjaaGreatDoor
open Go.RowKit
set_option linter.unusedVariables false
set_option linter.unusedSimpArgs false
/-- What the closure has taken: the basis, the row, how much of each row goes in. -/
structure LeftC (w w' : World) (b n : Nat) (r : PairV) (D : List Nat) (v1 v2 v3 : Nat) (AD : Option Addr) (cD : Nat) : Prop where
  basis : Held w' v1 (.pointer (some ⟨b, 0, none⟩)) 66
  row : w'.heap[v2]? = some (.cells #[r.a.val, r.b.val] 38 (0, 0))
  by_ : Held w' v3 (.slice AD n cD) 22
  own : Own w' w.heap.size 5 AD n cD D
  keep : Keep w w'
theorem LeftC.later {w w1 w2 : World} {b n v1 v2 v3 cD : Nat} {r : PairV} {D : List Nat} {AD : Option Addr} (h : LeftC w w1 b n r D v1 v2 v3 AD cD) (k : Keep w1 w2) : LeftC w w2 b n r D v1 v2 v3 AD cD :=
  ⟨h.basis.keep k, (k.block v2 (Array.getElem?_eq_some_iff.1 h.row).1).trans h.row, h.by_.keep k, h.own.keep k, h.keep.trans k⟩
/-- How much of each row goes in. -/
def byOf (g : Nat) (xs : List Nat) (ps : List PairV) : List Nat := ps.map fun p => xs.getD (vLead g p.a.xs).toNat 0
theorem byOf_len (g : Nat) (xs : List Nat) (ps : List PairV) : (byOf g xs ps).length = ps.length := List.length_map _
theorem byOf_at {g : Nat} {xs : List Nat} {ps : List PairV} {i : Nat} {p : PairV} (h : ps[i]? = some p) : (byOf g xs ps).getD i 0 = xs.getD (vLead g p.a.xs).toNat 0 := by
  rw [byOf, List.getD_eq_getElem?_getD, List.getElem?_map, h]; rfl
/-- What is being laid for it. -/
structure RedI (w wr : World) (q b n k : Nat) (r : PairV) (f : Nat → Nat) : Prop where
  base : w.heap.size = q
  basis : Held wr q (.pointer (some ⟨b, 0, none⟩)) 66
  row : wr.heap[q + 1]? = some (.cells #[r.a.val, r.b.val] 38 (0, 0))
  by_ : Held wr (q + 1 + 1 + 1) (.slice (some ⟨q + 1 + 1, 0, none⟩) n n) 22
  own : Own wr q 5 (some ⟨q + 1 + 1, 0, none⟩) n n (upto n f (fun _ => 0) k)
  keep : Keep w wr
theorem RedI.later {w w1 w2 : World} {q b n k : Nat} {r : PairV} {f : Nat → Nat} (h : RedI w w1 q b n k r f) (kp : Keep w1 w2) : RedI w w2 q b n k r f :=
  ⟨h.base, h.basis.keep kp, (kp.block _ (Array.getElem?_eq_some_iff.1 h.row).1).trans h.row, h.by_.keep kp, h.own.keep kp, h.keep.trans kp⟩
theorem RedI.start (w : World) (q b n : Nat) (r : PairV) (f : Nat → Nat) (hq : w.heap.size = q) (hn : n ≤ 1000) :
    RedI w ((((w.alloc (.cells #[.pointer (some ⟨b, 0, none⟩)] 66)).alloc (.cells #[r.a.val, r.b.val] 38)).alloc (.cells (madeCells #[.int .u8 0] n) 5)).alloc (.cells #[.slice (some ⟨q + 1 + 1, 0, none⟩) n n] 22)) q b n 0 r f := by
  subst hq
  have k2 : Keep (w.alloc (.cells #[.pointer (some ⟨b, 0, none⟩)] 66)) ((((w.alloc (.cells #[.pointer (some ⟨b, 0, none⟩)] 66)).alloc (.cells #[r.a.val, r.b.val] 38)).alloc (.cells (madeCells #[.int .u8 0] n) 5)).alloc (.cells #[.slice (some ⟨w.heap.size + 1 + 1, 0, none⟩) n n] 22)) := (((Keep.refl _).alloc _ _).alloc _ _).alloc _ _
  have o := Own.made ((w.alloc (.cells #[.pointer (some ⟨b, 0, none⟩)] 66)).alloc (.cells #[r.a.val, r.b.val] 38)) 5 n (by omega)
  rw [show ((w.alloc (.cells #[.pointer (some ⟨b, 0, none⟩)] 66)).alloc (.cells #[r.a.val, r.b.val] 38)).heap.size = w.heap.size + 1 + 1 by simp] at o
  refine ⟨rfl, (Held.new rfl _ _).keep k2, ?_, ?_, ?_, ((((Keep.refl w).alloc _ _).alloc _ _).alloc _ _).alloc _ _⟩
  · have k3 : Keep ((w.alloc (.cells #[.pointer (some ⟨b, 0, none⟩)] 66)).alloc (.cells #[r.a.val, r.b.val] 38)) ((((w.alloc (.cells #[.pointer (some ⟨b, 0, none⟩)] 66)).alloc (.cells #[r.a.val, r.b.val] 38)).alloc (.cells (madeCells #[.int .u8 0] n) 5)).alloc (.cells #[.slice (some ⟨w.heap.size + 1 + 1, 0, none⟩) n n] 22)) := ((Keep.refl _).alloc _ _).alloc _ _
    have h := heap_alloc_new (w.alloc (.cells #[.pointer (some ⟨b, 0, none⟩)] 66)) (.cells #[r.a.val, r.b.val] 38)
    rw [show (w.alloc (.cells #[.pointer (some ⟨b, 0, none⟩)] 66)).heap.size = w.heap.size + 1 by simp] at h
    exact (k3.block _ (by simp)).trans h
  · exact Held.new (by simp) _ _
  · rw [upto_zero, tab_zeros]
    exact ((o.alloc _).lower (by omega))
theorem RedI.set {w wr : World} {q b n k v : Nat} {r : PairV} {f : Nat → Nat} (h : RedI w wr q b n k r f) (hk : k < n) (hv : f k = v) (h2 : v < 256) : RedI w ((wr.setCell ⟨q + 1 + 1, k, none⟩ (.int .u8 (v : Int)))) q b n (k + 1) r f := by
  have ks : ∀ i, i ≠ q + 1 + 1 → (wr.setCell ⟨q + 1 + 1, k, none⟩ (.int .u8 (v : Int))).heap[i]? = wr.heap[i]? := fun i hi => Below.heap_setCell wr _ _ i hi
  refine ⟨h.base, (ks q (by omega)).trans h.basis, (ks _ (by omega)).trans h.row, (ks _ (by omega)).trans h.by_, ?_, h.keep.setCell (by rw [h.base]; show q ≤ q + 1 + 1; omega) _⟩
  have o := h.own.stored (i := k) h2
  rw [← hv, upto_set n f (fun _ => 0) k hk] at o
  rw [← hv]
  exact o
set_option maxRecDepth 100000 in
set_option maxHeartbeats 4000000 in
theorem breducer_any (b g n c ca : Nat) (A Ar : Option Addr) (xs : List Nat) (bv : RowV) (F : Nat → Prop) (ps : List PairV) (w : World)
    (hb : b < w.heap.size) (c2 : w.cell? ⟨b, 2, none⟩ = some (.slice A n c)) (hst : StIn w F A n ps) (hF : ∀ b, F b → b < w.heap.size) (hsz : ∀ p ∈ ps, p.a.n = g)
    (hlead : ∀ p ∈ ps, ∃ L : Nat, L < g ∧ vLead g p.a.xs = (L : Int)) (hx : Bytes w w.heap.size Ar g xs) (hn : n ≤ 255) (hg : g ≤ 255) :
    Calls Tryz.prog 57 #[.pointer (some ⟨b, 0, none⟩), PairV.agg ⟨⟨Ar, g, ca, xs⟩, bv⟩] w fun e w' => ∃ v1 v2 v3 AD cD,
      e = .returned (.func (.func 90) #[] #[.pointer (some ⟨v1, 0, none⟩), .pointer (some ⟨v2, 0, none⟩), .pointer (some ⟨v3, 0, none⟩)]) ∧ LeftC w w' b n ⟨⟨Ar, g, ca, xs⟩, bv⟩ (byOf g xs ps) v1 v2 v3 AD cD := by
  obtain ⟨Ab, nb, cb, xb⟩ := bv
  show Calls _ _ #[_, .agg #[.slice Ar g ca, .slice Ab nb cb]] _ _
  have HST := Lib.hid hst
  have HFF := Lib.hid hF
  have HX := Lib.hid hx
  have HSZ := Lib.hid hsz
  have HLD := Lib.hid hlead
  have mkb := fun w => run_make_bytes (P := Tryz.prog) Tryz.underlying22 info5 n (by omega) w
  have hc1 : (w.alloc (.cells #[.pointer (some ⟨b, 0, none⟩)] 66)).cell? ⟨b, 2, none⟩ = some (.slice A n c) := (World.cell?_alloc_past _ _ _ hb).trans c2
  have hc2 : ((w.alloc (.cells #[.pointer (some ⟨b, 0, none⟩)] 66)).alloc (.cells #[.slice Ar g ca, .slice Ab nb cb] 38)).cell? ⟨b, 2, none⟩ = some (.slice A n c) := (World.cell?_alloc_past _ _ _ (show b < _ by simp; omega)).trans hc1
  obtain ⟨q, hq⟩ : ∃ q, w.heap.size = q := ⟨_, rfl⟩
  have H0 := Lib.hid (RedI.start w q b n ⟨⟨Ar, g, ca, xs⟩, ⟨Ab, nb, cb, xb⟩⟩ (fun i => (byOf g xs ps).getD i 0) hq (by omega))
  have HXA := Lib.hid hx.all
  have HBY : Hid ((byOf g xs ps).length = n) := by show _ = _; rw [byOf_len, hst.1]
  clear hst hF hx hsz hlead
  go_enter Tryz.func57, Tryz.ntmps57
  go_upto_region 2 with fail
  clear hc1 hc2
  change Hid (RedI w ((((w.alloc (.cells #[.pointer (some ⟨b, 0, none⟩)] 66)).alloc (.cells #[.slice Ar g ca, .slice Ab nb cb] 38)).alloc (.cells (madeCells #[.int .u8 0] n) 5)).alloc (.cells #[.slice (some ⟨q + 1 + 1, 0, none⟩) n n] 22)) q b n 0 _ _) at H0
  generalize ((((w.alloc (.cells #[.pointer (some ⟨b, 0, none⟩)] 66)).alloc (.cells #[.slice Ar g ca, .slice Ab nb cb] 38)).alloc (.cells (madeCells #[.int .u8 0] n) 5)).alloc (.cells #[.slice (some ⟨q + 1 + 1, 0, none⟩) n n] 22)) = w4 at *
  have hc4 := (H0.out.keep.cell (p := ⟨b, 2, none⟩) hb).trans c2
  have HB := Lib.hid (And.intro hb c2)
  have k0 := H0.out.basis.cell
  clear c2 mkb hq
  go_wp2_with fail
  clear hc4
  go_loopw [19] (fun i wr => ∃ k : Nat, k ≤ n ∧ i = .int .i64 k ∧ RedI w wr q b n k ⟨⟨Ar, g, ca, xs⟩, ⟨Ab, nb, cb, xb⟩⟩ (fun i => (byOf g xs ps).getD i 0)) (fun i _ => n - (intOf i).toNat)
  case atStart => exact ⟨0, by omega, rfl, H0.out⟩
  case round =>
    obtain ⟨k, hk, rfl, hI⟩ := hrel
    have HI := Lib.hid hI
    have KI := Lib.hid hI.keep
    clear hI H0 k0
    by_cases hlt : k < n
    · obtain ⟨b2, o2, p, rfl, hb2, hp, hc1, hc2, hl2, _⟩ := (HST.out.keep KI.out).at_ hlt
      have hb3 := HFF.out b2 hb2
      obtain ⟨L, hLg, hL⟩ := HLD.out p (List.mem_of_getElem? hp)
      have hsz := HSZ.out p (List.mem_of_getElem? hp)
      have hby := hl2.bytes (B := w.heap.size) HFF.out
      have hv : (byOf g xs ps).getD k 0 = xs.getD L 0 := by rw [byOf_at hp, hL]; rfl
      obtain ⟨bx, ox, rfl, hbx, hcx⟩ := (HX.out.keep (Nat.le_refl _) KI.out).at_ hLg
      obtain ⟨v, hv2⟩ : ∃ v, xs.getD L 0 = v := ⟨_, rfl⟩
      have hvb : v < 256 := by rw [← hv2]; exact HXA.out.getD L
      rw [hv2] at hcx hv
      have HVB := Lib.hid (And.intro hvb hv)
      obtain ⟨⟨pA, pn, pc, px⟩, ⟨sA, sn, sc, sx⟩⟩ := p
      obtain rfl : pn = g := hsz
      have e1 : (0 : Int) ≤ (k : Int) := Int.natCast_nonneg _
      have e2 : (k : Int) < (n : Int) := by omega
      have e3 : (0 : Int) ≤ (L : Int) := Int.natCast_nonneg _
      have e4 : (L : Int) < (pn : Int) := by omega
      have HCX := Lib.hid hcx
      have HBX := Lib.hid hbx
      have HLV := Lib.hid hL
      have HPY := Lib.hid hby
      clear hby hl2 hp hb2 hv hvb hv2 hL hcx hbx
      go_upto_region 5 with fail
      have hkw : Keep wr (wr.alloc (.cells #[.slice pA pn pc, .slice sA sn sc] 38)) := (Keep.refl wr).alloc _ _
      have hnew := heap_alloc_new wr (.cells #[.slice pA pn pc, .slice sA sn sc] 38)
      generalize (wr.alloc (.cells #[.slice pA pn pc, .slice sA sn sc] 38)) = w5 at *
      have H5 := Lib.hid (HI.out.later hkw)
      have c5 := H5.out.by_.cell
      have c6 : w5.cell? ⟨q + 1, 0, none⟩ = some (.slice (some ⟨bx, ox, none⟩) pn ca) := cell_of_row _ _ _ _ _ _ H5.out.row
      have c7 : w5.cell? ⟨wr.heap.size, 0, none⟩ = some (.slice pA pn pc) := cell_of_row _ _ _ _ _ _ hnew
      have c8 : w5.cell? ⟨bx, ox + L, none⟩ = some (.int .u8 (v : Int)) := (hkw.cell (p := ⟨bx, ox + L, none⟩) (by have := HBX.out; have := KI.out.size; show bx < _; omega)).trans HCX.out
      have c9 := H5.out.own.cell hlt
      have f9 := H5.out.own.frozen k
      have K5 := Lib.hid hkw
      have C0 : Hid (Calls Tryz.prog 59 #[.slice pA pn pc] w5.drew fun e w' => e = .returned (.int .i64 (L : Int)) ∧ w' = w5.drew) := by
        have h := vlead_eq _ pn pc pA px w5.drew ((HPY.out.below (Below.mono hkw KI.out.size)).drew) (by omega)
        rw [HLV.out] at h
        exact h.mono fun e w' h => ⟨h.1, h.2.symm⟩
      clear hkw hnew
      generalize (upto n (fun i => (byOf pn xs ps).getD i 0) (fun x => 0) k).getD k 0 = z at *
      refine wp_region_still_tail (w := w5) 10 (by kernel_rfl) (by kernel_rfl) ?_
      simp only [List.take_succ_cons, List.take_zero, List.drop_succ_cons, List.drop_zero]
      change wpStill _ _ (World.drew w5) _ _ _
      iterate 6 still_step
      still_call C0.out
      iterate 3 still_step
      refine wpStill_nil ?_
      change wpList _ _ _ _ _ (World.drew w5)
      go_wp2_with fail
      go_roundw
      case rel => exact ⟨k + 1, by omega, by go_num, (H5.out.later (Keep.drew (Keep.refl _))).set hlt HVB.out.2 HVB.out.1⟩
      case measure => simp [intOf]; omega
    · obtain rfl : k = n := by omega
      have HO := Lib.hid HI.out.own
      go_wp2_with fail
      go_ret
      refine ⟨q, q + 1, q + 1 + 1 + 1, some ⟨q + 1 + 1, 0, none⟩, k, rfl, HI.out.basis, HI.out.row, HI.out.by_, ?_, KI.out⟩
      have o := HI.out.own
      have h := tab_self (byOf g xs ps)
      rw [HBY.out] at h
      rw [upto_all, h] at o
      rw [HI.out.base]; exact o
set_option maxRecDepth 100000 in
theorem bleft_any (f : Nat) (sel : PairV → RowV) (eg : ∀ args w, (callFunc f args).run Tryz.prog w = .ok (.enter f args) w) (b n c N cD cr v1 v2 v3 : Nat) (A AD Ar : Option Addr) (xr : List Nat) (r : PairV) (F : Nat → Prop) (ps : List PairV) (D : List Nat) (w0 w : World)
    (hC : LeftC w0 w b n r D v1 v2 v3 AD cD)
    (hfr : ∀ w1, Calls Tryz.prog f #[r.agg] w1 fun e w' => e = .returned (.slice Ar N cr) ∧ Keep w1 w')
    (hfp : ∀ p ∈ ps, ∀ w1, Calls Tryz.prog f #[p.agg] w1 fun e w' => e = .returned (.slice (sel p).A N (sel p).c) ∧ Keep w1 w')
    (hb : b < w.heap.size) (c2 : w.cell? ⟨b, 2, none⟩ = some (.slice A n c)) (hst : StIn w F A n ps) (hF : ∀ b, F b → b < w.heap.size) (hr : Bytes w w.heap.size Ar N xr) (hrc : N ≤ cr)
    (hrow : ∀ p ∈ ps, Bytes w w.heap.size (sel p).A N (sel p).xs ∧ N ≤ (sel p).c) (hn : n ≤ 255) (hN : N ≤ 65535) :
    Calls Tryz.prog 90 #[.func (.func f) #[] #[], .pointer (some ⟨v1, 0, none⟩), .pointer (some ⟨v2, 0, none⟩), .pointer (some ⟨v3, 0, none⟩)] w fun e w' => ∃ A' c', e = .returned (.slice A' N c') ∧ Own w' w.heap.size 5 A' N c' (plusN N xr (ps.map fun p => (sel p).xs) D n) ∧ Keep w w' := by
  have h := bplus_any f sel eg b n c N cD cr A AD Ar xr r F ps D w hfr hfp hb c2 hst hF hr hrc hrow hC.own.bytes hn hN
  have k1 := hC.basis.cell
  have k3 := hC.by_.cell
  have k2 : w.cell? ⟨v2, 0, none⟩ = some r.a.val := cell_of_row _ _ _ _ _ _ hC.row
  have k4 : w.cell? ⟨v2, 1, none⟩ = some r.b.val := cell_of_row _ _ _ _ _ _ hC.row
  obtain ⟨⟨A1, n1, c1, x1⟩, ⟨A2, n2, c2', x2⟩⟩ := r
  have H : Hid (Calls Tryz.prog 69 #[.pointer (some ⟨b, 0, none⟩), .agg #[.slice A1 n1 c1, .slice A2 n2 c2'], .slice AD n cD, .func (.func f) #[] #[]] w fun e w' => ∃ A' c', e = .returned (.slice A' N c') ∧ Own w' w.heap.size 5 A' N c' (plusN N xr (ps.map fun p => (sel p).xs) D n) ∧ Keep w w') := h
  change w.cell? ⟨v2, 0, none⟩ = some (.slice A1 n1 c1) at k2
  change w.cell? ⟨v2, 1, none⟩ = some (.slice A2 n2 c2') at k4
  clear h hC hfr hfp hst hF hr hrc hrow c2
  go_enter Tryz.func90, Tryz.ntmps90
  go_wp2_with fail
  refine H.out.mono ?_
  rintro e w1 ⟨A', c', rfl, o, k⟩
  have O := Lib.hid (And.intro o k)
  clear o k
  go_wp2_with fail
  go_ret
  exact ⟨A', c', rfl, O.out.1, O.out.2⟩
end Go.Proofs.YtifopodnceopjaaGreatDoor
/- The landed code of layer 7: is a row of the span? -/
namespace Go.Proofs.YtifopodnceopjaaGreatDoor
open Go.RowKit Lin
set_option linter.unusedVariables false
set_option linter.unusedSimpArgs false
theorem vLeadTo_take (v : List Nat) (g : Nat) : ∀ k, k ≤ g → vLeadTo (v.take g) k = vLeadTo v k
  | 0, _ => rfl
  | k + 1, h => by rw [vLeadTo, vLeadTo, vLeadTo_take v g k (by omega), getD_take (by omega)]
theorem vLead_take (v : List Nat) (g : Nat) : vLead g (v.take g) = vLead g v := by rw [vLead, vLead, vLeadTo_take v g g (Nat.le_refl _)]
section
variable {w : World} {F : Nat → Prop} {b g s n c : Nat} {B : List (List Nat)} {A : Option Addr} {ps : List PairV}
theorem BasA.lens (h : BasA w F b g s B A n c ps) {p : PairV} (hp : p ∈ ps) : p.a.xs.length = g ∧ p.b.xs.length = s := by
  have h1 := h.st.2.1 p hp
  have h2 := h.size p hp
  exact ⟨h1.1.1.trans h2.1, h1.2.1.trans h2.2⟩
theorem BasA.sides (h : BasA w F b g s B A n c ps) : B.map (List.take g) = ps.map (fun p => p.a.xs) ∧ B.map (List.drop g) = ps.map (fun p => p.b.xs) := by
  have hl := fun p hp => (h.lens (p := p) hp).1
  rw [← h.xs, List.map_map, List.map_map]
  exact ⟨List.map_congr_left fun p hp => by
    show (p.a.xs ++ p.b.xs).take g = _
    rw [← hl p hp]; simp, List.map_congr_left fun p hp => by
    show (p.a.xs ++ p.b.xs).drop g = _
    rw [← hl p hp]; simp⟩
theorem BasA.row (h : BasA w F b g s B A n c ps) {i : Nat} {p : PairV} (hp : ps[i]? = some p) : B.getD i [] = p.a.xs ++ p.b.xs ∧ (B.getD i []).take g = p.a.xs := by
  have e : B.getD i [] = p.a.xs ++ p.b.xs := by rw [← h.xs, List.getD_eq_getElem?_getD, List.getElem?_map, hp]; rfl
  refine ⟨e, ?_⟩
  rw [e, ← (h.lens (List.mem_of_getElem? hp)).1]; simp
theorem BasA.at_lt (h : BasA w F b g s B A n c ps) {i : Nat} {p : PairV} (hp : ps[i]? = some p) : i < B.length := by
  rcases Nat.lt_or_ge i ps.length with h1 | h1
  · rw [h.len, ← h.st.1]; exact h1
  · rw [List.getElem?_eq_none h1] at hp; cases hp
theorem BasA.lead (h : BasA w F b g s B A n c ps) : ∀ p ∈ ps, ∃ L : Nat, L < g ∧ vLead g p.a.xs = (L : Int) := fun p hp => by
  obtain ⟨l, hr, hl⟩ := h.bas.leads
  obtain ⟨i, hi⟩ := List.getElem?_of_mem hp
  have hB := h.at_lt hi
  have e := lead_col h.bas hr hB (hl i hB)
  rw [(h.row hi).2] at e
  exact ⟨l i, hl i hB, e⟩
theorem BasA.left (h : BasA w F b g s B A n c ps) {xs ys : List Nat} (hx : xs.length = g) (hy : ys.length = s) (hxa : AllB xs) (hya : AllB ys) :
    plusN g xs (ps.map fun p => p.a.xs) (byOf g xs ps) n = (leftB (g + s) B (xs ++ ys)).take g ∧ plusN s ys (ps.map fun p => p.b.xs) (byOf g xs ps) n = (leftB (g + s) B (xs ++ ys)).drop g := by
  obtain ⟨l, hr, hl⟩ := h.bas.leads
  have hlen : (xs ++ ys).length = g + s := by rw [List.length_append, hx, hy]
  have e := leftB_eq h.bas hr hlen (hxa.append hya)
  have hD : (tab B.length fun i => (xs ++ ys).getD (l i) 0) = byOf g xs ps := list_ext (by rw [tab_length, byOf_len, h.len, h.st.1]) fun i hi => by
    rw [tab_length] at hi
    have hp := List.getElem?_eq_getElem (l := ps) (i := i) (by rw [h.st.1, ← h.len]; exact hi)
    have e := lead_col h.bas hr hi (hl i hi)
    rw [(h.row hp).2] at e
    rw [tab_getD, if_pos hi, byOf_at hp, e, Int.toNat_natCast, List.getD_eq_getElem?_getD, List.getElem?_append_left (by rw [hx]; exact hl i hi), ← List.getD_eq_getElem?_getD]
  rw [hD] at e
  rw [e, plusN_take, plusN_drop, h.sides.1, h.sides.2, h.len]
  constructor
  · congr 1
    rw [← hx]; simp
  · congr 1
    rw [← hx]; simp
theorem BasA.inB_iff (h : BasA w F b g s B A n c ps) {xs ys : List Nat} (hx : xs.length = g) (hy : ys.length = s) (hxa : AllB xs) (hya : AllB ys) : inB g s B (xs ++ ys) ↔ vLead g (plusN g xs (ps.map fun p => p.a.xs) (byOf g xs ps) n) < 0 := by
  rw [(h.left hx hy hxa hya).1, vLead_take]; exact Iff.rfl
theorem BasA.colA (h : BasA w F b g s B A n c ps) : ∀ p ∈ ps, Bytes w w.heap.size p.a.A g p.a.xs ∧ g ≤ p.a.c := fun p hp => by
  have h1 := (h.st.2.1 p hp).1
  have h2 := (h.size p hp).1
  have h3 := h1.bytes h.lt
  rw [h2] at h3
  exact ⟨h3, by have := h1.2.2.1; omega⟩
theorem BasA.colB (h : BasA w F b g s B A n c ps) : ∀ p ∈ ps, Bytes w w.heap.size p.b.A s p.b.xs ∧ s ≤ p.b.c := fun p hp => by
  have h1 := (h.st.2.1 p hp).2
  have h2 := (h.size p hp).2
  have h3 := h1.bytes h.lt
  rw [h2] at h3
  exact ⟨h3, by have := h1.2.2.1; omega⟩
theorem BasA.cofA (h : BasA w F b g s B A n c ps) : ∀ p ∈ ps, ∀ w1, Calls Tryz.prog 58 #[p.agg] w1 fun e w' => e = .returned (.slice p.a.A g p.a.c) ∧ Keep w1 w' := fun p hp w1 => by
  have := bcoefs_any p w1
  rwa [(h.size p hp).1] at this
theorem BasA.cofB (h : BasA w F b g s B A n c ps) : ∀ p ∈ ps, ∀ w1, Calls Tryz.prog 63 #[p.agg] w1 fun e w' => e = .returned (.slice p.b.A s p.b.c) ∧ Keep w1 w' := fun p hp w1 => by
  have := bpayload_any p w1
  rwa [(h.size p hp).2] at this
/-- What tells what is left. -/
theorem breducer_bas (h : BasA w F b g s B A n c ps) (ca : Nat) (Ar : Option Addr) (xs : List Nat) (bv : RowV) (hx : Bytes w w.heap.size Ar g xs) :
    Calls Tryz.prog 57 #[.pointer (some ⟨b, 0, none⟩), PairV.agg ⟨⟨Ar, g, ca, xs⟩, bv⟩] w fun e w' => ∃ v1 v2 v3 AD cD,
      e = .returned (.func (.func 90) #[] #[.pointer (some ⟨v1, 0, none⟩), .pointer (some ⟨v2, 0, none⟩), .pointer (some ⟨v3, 0, none⟩)]) ∧ LeftC w w' b n ⟨⟨Ar, g, ca, xs⟩, bv⟩ (byOf g xs ps) v1 v2 v3 AD cD :=
  breducer_any b g n c ca A Ar xs bv F ps w (h.lt b h.at_) h.c2 h.st h.lt (fun p hp => (h.size p hp).1) h.lead hx (by have := h.n_le; have := h.g2; omega) h.g2
/-- One side of what is left: coefficients. -/
theorem bleft_a (h : BasA w F b g s B A n c ps) {w0 : World} {D : List Nat} {r : PairV} {v1 v2 v3 cD : Nat} {AD : Option Addr} (hC : LeftC w0 w b n r D v1 v2 v3 AD cD) (hr : Bytes w w.heap.size r.a.A g r.a.xs) (hrn : r.a.n = g) (hrc : g ≤ r.a.c) :
    Calls Tryz.prog 90 #[.func (.func 58) #[] #[], .pointer (some ⟨v1, 0, none⟩), .pointer (some ⟨v2, 0, none⟩), .pointer (some ⟨v3, 0, none⟩)] w fun e w' => ∃ A' c', e = .returned (.slice A' g c') ∧ Own w' w.heap.size 5 A' g c' (plusN g r.a.xs (ps.map fun p => p.a.xs) D n) ∧ Keep w w' :=
  bleft_any 58 (fun p => p.a) (enters_at Tryz.func58 (by kernel_rfl) rfl) b n c g cD r.a.c v1 v2 v3 A AD r.a.A r.a.xs r F ps D w0 w hC
    (fun w1 => by have := bcoefs_any r w1; rwa [hrn] at this) h.cofA (h.lt b h.at_) h.c2 h.st h.lt hr hrc h.colA (by have := h.n_le; have := h.g2; omega) (by have := h.g2; omega)
/-- .. payload. -/
theorem bleft_b (h : BasA w F b g s B A n c ps) {w0 : World} {D : List Nat} {r : PairV} {v1 v2 v3 cD : Nat} {AD : Option Addr} (hC : LeftC w0 w b n r D v1 v2 v3 AD cD) (hr : Bytes w w.heap.size r.b.A s r.b.xs) (hrn : r.b.n = s) (hrc : s ≤ r.b.c) :
    Calls Tryz.prog 90 #[.func (.func 63) #[] #[], .pointer (some ⟨v1, 0, none⟩), .pointer (some ⟨v2, 0, none⟩), .pointer (some ⟨v3, 0, none⟩)] w fun e w' => ∃ A' c', e = .returned (.slice A' s c') ∧ Own w' w.heap.size 5 A' s c' (plusN s r.b.xs (ps.map fun p => p.b.xs) D n) ∧ Keep w w' :=
  bleft_any 63 (fun p => p.b) (enters_at Tryz.func63 (by kernel_rfl) rfl) b n c s cD r.b.c v1 v2 v3 A AD r.b.A r.b.xs r F ps D w0 w hC
    (fun w1 => by have := bpayload_any r w1; rwa [hrn] at this) h.cofB (h.lt b h.at_) h.c2 h.st h.lt hr hrc h.colB (by have := h.n_le; have := h.g2; omega) h.s2
end
section
variable {w : World} {F : Nat → Prop} {b g s : Nat} {B : List (List Nat)}
end
end Go.Proofs.YtifopodnceopjaaGreatDoor
/- The landed code of layer 7: rows, each as often as its number says. -/
namespace Go.Proofs.YtifopodnceopjaaGreatDoor
open Go.RowKit Lin
set_option linter.unusedVariables false
set_option linter.unusedSimpArgs false
theorem three_allocs (w : World) (a1 a2 a3 : Array Value) (t1 t2 t3 : TypeId) :
    (((w.alloc (.cells a1 t1)).alloc (.cells a2 t2)).alloc (.cells a3 t3)).drew.heap[w.heap.size]? = some (.cells a1 t1) ∧ (((w.alloc (.cells a1 t1)).alloc (.cells a2 t2)).alloc (.cells a3 t3)).drew.heap[w.heap.size + 1]? = some (.cells a2 t2) ∧
    (((w.alloc (.cells a1 t1)).alloc (.cells a2 t2)).alloc (.cells a3 t3)).drew.heap[w.heap.size + 1 + 1]? = some (.cells a3 t3) ∧ Keep w (((w.alloc (.cells a1 t1)).alloc (.cells a2 t2)).alloc (.cells a3 t3)).drew := by
  have h1 := heap_alloc_new w (.cells a1 t1)
  have h2 := heap_alloc_new (w.alloc (.cells a1 t1)) (.cells a2 t2)
  have h3 := heap_alloc_new ((w.alloc (.cells a1 t1)).alloc (.cells a2 t2)) (.cells a3 t3)
  have k2 : Keep (w.alloc (.cells a1 t1)) (((w.alloc (.cells a1 t1)).alloc (.cells a2 t2)).alloc (.cells a3 t3)) := ((Keep.refl _).alloc _ _).alloc _ _
  have k3 : Keep ((w.alloc (.cells a1 t1)).alloc (.cells a2 t2)) (((w.alloc (.cells a1 t1)).alloc (.cells a2 t2)).alloc (.cells a3 t3)) := (Keep.refl _).alloc _ _
  have e1 : (w.alloc (.cells a1 t1)).heap.size = w.heap.size + 1 := by simp
  have e2 : ((w.alloc (.cells a1 t1)).alloc (.cells a2 t2)).heap.size = w.heap.size + 1 + 1 := by simp
  rw [e1] at h2
  rw [e2] at h3
  exact ⟨(k2.block _ (by omega)).trans h1, (k3.block _ (by omega)).trans h2, h3, ((((Keep.refl w).alloc _ _).alloc _ _).alloc _ _).drew⟩
theorem Own.made_at {w : World} {i base n : Nat} {e : TypeId} (hh : w.heap[i]? = some (.cells (madeCells #[.int .u8 0] n) e (0, 0))) (hb : base ≤ i) (hn : n ≤ 140737488355328) : Own w base e (some ⟨i, 0, none⟩) n n (List.replicate n 0) := by
  refine ⟨⟨by simp [u8s_length], Or.inr ⟨i, n, madeCells #[.int .u8 0] n, rfl, hb, hh, Nat.le_refl _, by unfold maxLen; omega, by rw [size_madeCells]; simp, ?_⟩⟩, AllB.zeros n⟩
  rw [toList_madeCells_one, ← u8s_zeros, List.take_of_length_le (by simp [u8s_length])]
theorem bset {w : World} {g i : Nat} {cs : Array Value} {t : TypeId} (h : w.heap[g]? = some (.cells cs t (0, 0))) (v : Value) : (w.setCell ⟨g, i, none⟩ v).heap[g]? = some (.cells (cs.setIfInBounds i v) t (0, 0)) := by
  simp [World.setCell, Array.getElem?_modify, h]
theorem results_cell_tmp {P : Program} {fn : Func} {p u : Tmp} {ty : TypeId} (h : fn.results = #[.cell p ty, .tmp u]) (tmps : Array Value) (w : World) (g : Nat) (t : TypeId) (cs : Array Value) (fr : Nat × Nat) (d : TypeDesc)
    (hp : tmps.getD p undef = .pointer (some ⟨g, 0, none⟩)) (hg : w.heap[g]? = some (.cells cs t fr))
    (hu : P.underlying ty = some d) (hd : (match d with | .struct _ | .array _ _ => true | _ => false) = true) (hi : (P.info? ty).map (·.size) = some cs.size) :
    (results fn tmps).run P w = .ok (.tuple #[.agg cs, tmps.getD u undef]) w := by
  have hp' : tmps[p]?.getD undef = .pointer (some ⟨g, 0, none⟩) := by simpa using hp
  simp [results, h, hp', asAddr, run_loadVar_row w g t ty cs fr d hg hu hd hi]
section
variable {w : World} {F : Nat → Prop} {b g s : Nat} {B : List (List Nat)}
/-- Two sides of noughts, and a row of them. -/
structure Nought (w w' : World) (q g s : Nat) (A2 A3 : Option Addr) : Prop where
  ge : w.heap.size ≤ q
  row : w'.heap[q]? = some (.cells #[.slice A2 g g, .slice A3 s s] 38 (0, 0))
  a : Own w' w.heap.size 5 A2 g g (List.replicate g 0)
  b : Own w' w.heap.size 5 A3 s s (List.replicate s 0)
  keep : Keep w w'
theorem nought_of {w w' : World} {q i2 i3 g s : Nat} (b1 : w.heap.size ≤ q) (hq : w'.heap[q]? = some (.cells #[.slice (some ⟨i2, 0, none⟩) g g, .slice (some ⟨i3, 0, none⟩) s s] 38 (0, 0))) (h2 : w'.heap[i2]? = some (.cells (madeCells #[.int .u8 0] g) 5 (0, 0))) (h3 : w'.heap[i3]? = some (.cells (madeCells #[.int .u8 0] s) 5 (0, 0)))
    (hk : Keep w w') (b2 : w.heap.size ≤ i2) (b3 : w.heap.size ≤ i3) (hg : g ≤ 255) (hs : s ≤ 65535) : Nought w w' q g s (some ⟨i2, 0, none⟩) (some ⟨i3, 0, none⟩) :=
  ⟨b1, hq, Own.made_at h2 b2 (by omega), Own.made_at h3 b3 (by omega), hk⟩
theorem bplus_a {n c : Nat} {A : Option Addr} {ps : List PairV} (h : BasA w F b g s B A n c ps) (r : PairV) {D : List Nat} {cD : Nat} {AD : Option Addr} (hD : Bytes w w.heap.size AD n D) (hr : Bytes w w.heap.size r.a.A g r.a.xs) (hrn : r.a.n = g) (hrc : g ≤ r.a.c) :
    Calls Tryz.prog 69 #[.pointer (some ⟨b, 0, none⟩), r.agg, .slice AD n cD, .func (.func 58) #[] #[]] w fun e w' => ∃ A' c', e = .returned (.slice A' g c') ∧ Own w' w.heap.size 5 A' g c' (plusN g r.a.xs (ps.map fun p => p.a.xs) D n) ∧ Keep w w' :=
  bplus_any 58 (fun p => p.a) (enters_at Tryz.func58 (by kernel_rfl) rfl) b n c g cD r.a.c A AD r.a.A r.a.xs r F ps D w
    (fun w1 => by have := bcoefs_any r w1; rwa [hrn] at this) h.cofA (h.lt b h.at_) h.c2 h.st h.lt hr hrc h.colA hD (by have := h.n_le; have := h.g2; omega) (by have := h.g2; omega)
theorem bplus_b {n c : Nat} {A : Option Addr} {ps : List PairV} (h : BasA w F b g s B A n c ps) (r : PairV) {D : List Nat} {cD : Nat} {AD : Option Addr} (hD : Bytes w w.heap.size AD n D) (hr : Bytes w w.heap.size r.b.A s r.b.xs) (hrn : r.b.n = s) (hrc : s ≤ r.b.c) :
    Calls Tryz.prog 69 #[.pointer (some ⟨b, 0, none⟩), r.agg, .slice AD n cD, .func (.func 63) #[] #[]] w fun e w' => ∃ A' c', e = .returned (.slice A' s c') ∧ Own w' w.heap.size 5 A' s c' (plusN s r.b.xs (ps.map fun p => p.b.xs) D n) ∧ Keep w w' :=
  bplus_any 63 (fun p => p.b) (enters_at Tryz.func63 (by kernel_rfl) rfl) b n c s cD r.b.c A AD r.b.A r.b.xs r F ps D w
    (fun w1 => by have := bpayload_any r w1; rwa [hrn] at this) h.cofB (h.lt b h.at_) h.c2 h.st h.lt hr hrc h.colB hD (by have := h.n_le; have := h.g2; omega) h.s2
set_option maxRecDepth 100000 in
set_option maxHeartbeats 4000000 in
theorem bcombine_in (h : BasR w F b g s B) (B1 c1 n : Nat) (A1 : Option Addr) (xs : List Nat) (h1 : Bytes w B1 A1 n xs) (hB1 : B1 ≤ w.heap.size) (hn : n = B.length) :
    Calls Tryz.prog 27 #[.pointer (some ⟨b, 0, none⟩), .slice A1 n c1] w fun e w' => ∃ A2 c2 A3 c3, e = .returned (.tuple #[.agg #[.slice A2 g c2, .slice A3 s c3], .int .i64 0]) ∧ Own w' w.heap.size 5 A2 g c2 ((vComb (g + s) B xs B.length).take g) ∧ Own w' w.heap.size 5 A3 s c3 ((vComb (g + s) B xs B.length).drop g) ∧ Keep w w' := by
  obtain ⟨A, n', c, ps, h⟩ := h.open_
  have hnl := h.len
  obtain rfl : n' = n := by rw [hn, hnl]
  have hv : (vComb (g + s) B xs n').take g = plusN g (List.replicate g 0) (ps.map fun p => p.a.xs) xs n' ∧ (vComb (g + s) B xs n').drop g = plusN s (List.replicate s 0) (ps.map fun p => p.b.xs) xs n' := by
    rw [← vComb_plusN, plusN_take, plusN_drop, h.sides.1, h.sides.2]
    exact ⟨by rw [List.take_replicate]; congr 2; omega, by rw [List.drop_replicate]; congr 2; omega⟩
  rw [hnl, hv.1, hv.2]
  have HX := Lib.hid (h1.mono hB1)
  have hk0 : Keep w (w.alloc (.cells #[.slice none 0 0, .slice none 0 0] 38)) := (Keep.refl w).alloc _ _
  have hq := heap_alloc_new w (.cells #[.slice none 0 0, .slice none 0 0] 38)
  have H := Lib.hid (h.keep hk0)
  have b0 : ((n' : Int) != (n' : Int)) = false := by simp
  have g1 : g ≤ 255 := h.g2
  have s1 : s ≤ 65535 := h.s2
  have mkg := fun w => run_make_bytes (P := Tryz.prog) Tryz.underlying22 info5 g (by omega) w
  have mks := fun w => run_make_bytes (P := Tryz.prog) Tryz.underlying22 info5 s (by omega) w
  have HWL : Hid (w.heap.size < (w.alloc (.cells #[.slice none 0 0, .slice none 0 0] 38)).heap.size) := by show _ < _; simp
  clear h h1 hn hnl hv
  go_enter Tryz.func27, Tryz.ntmps27
  go_upto_region 1 with fail
  have K0 := Lib.hid hk0
  have HQ := Lib.hid hq
  clear hk0 hq
  generalize (w.alloc (.cells #[.slice none 0 0, .slice none 0 0] 38)) = wa at *
  go_wp2_with fail
  refine (bmade_eq b g _ H.out.c0 H.out.g1).mono ?_
  rintro e w' ⟨rfl, rfl⟩
  have c0 := H.out.c0
  have c1' := H.out.c1
  have c2 := H.out.c2
  go_upto_region 5 with fail
  go_cut [6] (fun v wx => ∃ (q : Nat) (A2 A3 : Option Addr), v = .pointer (some ⟨q, 0, none⟩) ∧ Nought wa wx q g s A2 A3)
  case first =>
    have hbl : b < wa.heap.size := H.out.lt b H.out.at_
    have p0 : ∀ v t, (wa.alloc (.cells v t)).cell? ⟨b, 0, none⟩ = some (.int .i64 (g : Int)) := fun v t => (World.cell?_alloc_past _ _ _ hbl).trans c0
    have p1 : ∀ v t, (wa.alloc (.cells v t)).cell? ⟨b, 1, none⟩ = some (.int .i64 (s : Int)) := fun v t => (World.cell?_alloc_past _ _ _ hbl).trans c1'
    have p2 : ∀ v t v' t', ((wa.alloc (.cells v t)).alloc (.cells v' t')).cell? ⟨b, 0, none⟩ = some (.int .i64 (g : Int)) := fun v t v' t' => (World.cell?_alloc_past _ _ _ (show b < _ by simp; omega)).trans (p0 v t)
    have p3 : ∀ v t v' t', ((wa.alloc (.cells v t)).alloc (.cells v' t')).cell? ⟨b, 1, none⟩ = some (.int .i64 (s : Int)) := fun v t v' t' => (World.cell?_alloc_past _ _ _ (show b < _ by simp; omega)).trans (p1 v t)
    go_region
    all_goals
      go_wp2_with fail
      go_meet
      case rel =>
        first
          | exact ⟨_, _, _, rfl, nought_of (by omega) (three_allocs wa _ _ _ _ _ _).1 (three_allocs wa _ _ _ _ _ _).2.1 (three_allocs wa _ _ _ _ _ _).2.2.1 (three_allocs wa _ _ _ _ _ _).2.2.2 (by omega) (by omega) g1 s1⟩
          | exact ⟨_, _, _, rfl, nought_of (by omega) (three_allocs wa _ _ _ _ _ _).1 (three_allocs wa _ _ _ _ _ _).2.2.1 (three_allocs wa _ _ _ _ _ _).2.1 (three_allocs wa _ _ _ _ _ _).2.2.2 (by omega) (by omega) g1 s1⟩
          | exact ⟨_, _, _, rfl, nought_of (by omega) (three_allocs wa _ _ _ _ _ _).2.1 (three_allocs wa _ _ _ _ _ _).1 (three_allocs wa _ _ _ _ _ _).2.2.1 (three_allocs wa _ _ _ _ _ _).2.2.2 (by omega) (by omega) g1 s1⟩
          | exact ⟨_, _, _, rfl, nought_of (by omega) (three_allocs wa _ _ _ _ _ _).2.1 (three_allocs wa _ _ _ _ _ _).2.2.1 (three_allocs wa _ _ _ _ _ _).1 (three_allocs wa _ _ _ _ _ _).2.2.2 (by omega) (by omega) g1 s1⟩
          | exact ⟨_, _, _, rfl, nought_of (by omega) (three_allocs wa _ _ _ _ _ _).2.2.1 (three_allocs wa _ _ _ _ _ _).1 (three_allocs wa _ _ _ _ _ _).2.1 (three_allocs wa _ _ _ _ _ _).2.2.2 (by omega) (by omega) g1 s1⟩
          | exact ⟨_, _, _, rfl, nought_of (by omega) (three_allocs wa _ _ _ _ _ _).2.2.1 (three_allocs wa _ _ _ _ _ _).2.1 (three_allocs wa _ _ _ _ _ _).1 (three_allocs wa _ _ _ _ _ _).2.2.2 (by omega) (by omega) g1 s1⟩
  case rest =>
    obtain ⟨q, A2, A3, rfl, hN⟩ := hcut
    have x0 : wc.cell? ⟨q, 0, none⟩ = some (.slice A2 g g) := cell_of_row _ _ _ _ _ _ hN.row
    have x1 : wc.cell? ⟨q, 1, none⟩ = some (.slice A3 s s) := cell_of_row _ _ _ _ _ _ hN.row
    have HQL : Hid (q < wc.heap.size) := (Array.getElem?_eq_some_iff.1 hN.row).1
    have HXC : Hid (Bytes wc wc.heap.size A1 n' xs) := (HX.out.below (Below.mono (K0.out.trans hN.keep) (Nat.le_refl _))).mono (K0.out.trans hN.keep).size
    have HN := Lib.hid hN
    clear hN mkg mks c0 c1' c2
    go_wp2_with fail
    refine wp_region_noPanic ?_
    refine wp_region_held_drew (S := fun wz => wz.cell? ⟨q, 0, none⟩ = some (.slice A2 g g) ∧ wz.cell? ⟨q, 1, none⟩ = some (.slice A3 s s)) (by kernel_rfl) ⟨x0, x1⟩ (fun hHeld => ?_)
    refine wpAnyH_take (i := 0) (v := ?_) rfl (by kernel_rfl) (by kernel_rfl) (by kernel_rfl) (fun _ _ _ h => h) (Or.inl ⟨by rfl, ?_⟩) hHeld ?_
    rotate_left
    · intro wq hSw
      go_simp
      all_goals with_reducible rfl
    try simp only [Act.put, List.getElem_toArray, List.getElem_cons_succ, List.getElem_cons_zero, List.setIfInBounds_toArray, List.set_cons_zero, List.set_cons_succ]
    refine wpAnyH_take (i := 1) (v := ?_) rfl (by kernel_rfl) (by kernel_rfl) (by kernel_rfl) (fun _ _ _ h => h) (Or.inl ⟨by rfl, ?_⟩) hHeld ?_
    rotate_left
    · intro wq hSw
      have q0 := hSw.1
      have q1 := hSw.2
      go_simp
      all_goals with_reducible rfl
    try simp only [Act.put, List.getElem_toArray, List.getElem_cons_succ, List.getElem_cons_zero, List.setIfInBounds_toArray, List.set_cons_zero, List.set_cons_succ]
    refine wpAnyH_take (i := 2) (v := ?_) rfl (by kernel_rfl) (by kernel_rfl) (by kernel_rfl) (fun _ _ _ h => h) (Or.inl ⟨by rfl, ?_⟩) hHeld ?_
    rotate_left
    · intro wq hSw
      go_simp
      all_goals with_reducible rfl
    try simp only [Act.put, List.getElem_toArray, List.getElem_cons_succ, List.getElem_cons_zero, List.setIfInBounds_toArray, List.set_cons_zero, List.set_cons_succ]
    refine wpAnyH_take (i := 4) (v := ?_) rfl (by kernel_rfl) (by kernel_rfl) (by kernel_rfl) (fun _ _ _ h => h) (Or.inl ⟨by rfl, ?_⟩) hHeld ?_
    rotate_left
    · intro wq hSw
      go_simp
      all_goals with_reducible rfl
    try simp only [Act.put, List.getElem_toArray, List.getElem_cons_succ, List.getElem_cons_zero, List.setIfInBounds_toArray, List.set_cons_zero, List.set_cons_succ]
    refine wpAnyH_take (i := 5) (v := ?_) rfl (by kernel_rfl) (by kernel_rfl) (by kernel_rfl) (fun _ _ _ h => h) (Or.inl ⟨by rfl, ?_⟩) hHeld ?_
    rotate_left
    · intro wq hSw
      have q0 := hSw.1
      have q1 := hSw.2
      go_simp
      all_goals with_reducible rfl
    try simp only [Act.put, List.getElem_toArray, List.getElem_cons_succ, List.getElem_cons_zero, List.setIfInBounds_toArray, List.set_cons_zero, List.set_cons_succ]
    refine wpAnyH_take (i := 6) (v := ?_) rfl (by kernel_rfl) (by kernel_rfl) (by kernel_rfl) (fun _ _ _ h => h) (Or.inl ⟨by rfl, ?_⟩) hHeld ?_
    rotate_left
    · intro wq hSw
      go_simp
      all_goals with_reducible rfl
    try simp only [Act.put, List.getElem_toArray, List.getElem_cons_succ, List.getElem_cons_zero, List.setIfInBounds_toArray, List.set_cons_zero, List.set_cons_succ]
    refine wpAnyH_ready (rs := [3]) (by kernel_rfl) (by simp) ?_
    refine AllReadyH.cons rfl (fun K hK => ?_) AllReadyH.nil
    go_simp
    refine (bplus_a (H.out.keep (HN.out.keep.trans (Keep.drew (Keep.refl _)))) ⟨⟨A2, g, g, List.replicate g 0⟩, ⟨A3, s, s, List.replicate s 0⟩⟩ (D := xs) (HXC.out.keep (Nat.le_refl _) (Keep.drew (Keep.refl _))) (HN.out.a.bytes.keep (Nat.le_refl _) (Keep.drew (Keep.refl _))) rfl (Nat.le_refl _)).mono ?_
    rintro e w3 ⟨A4, c4, rfl, o4, k4⟩
    have K3 : Hid (Keep wc w3) := (Keep.drew (Keep.refl wc)).trans k4
    have x0' := (K3.out.cell (p := ⟨q, 0, none⟩) HQL.out).trans x0
    have x1' := (K3.out.cell (p := ⟨q, 1, none⟩) HQL.out).trans x1
    have O4 : Hid (Own w3 wc.heap.size 5 A4 g c4 _) := o4
    clear o4 k4
    refine hK.out _ _ ⟨x0', x1'⟩ (fun hHeld => ?_)
    clear hK K
    try simp only [Act.put, List.getElem_toArray, List.getElem_cons_succ, List.getElem_cons_zero, List.setIfInBounds_toArray, List.set_cons_zero, List.set_cons_succ]
    refine wpAnyH_ready (rs := [7]) (by kernel_rfl) (by simp) ?_
    refine AllReadyH.cons rfl (fun K hK => ?_) AllReadyH.nil
    go_simp
    refine (bplus_b (H.out.keep (HN.out.keep.trans K3.out)) ⟨⟨A2, g, g, List.replicate g 0⟩, ⟨A3, s, s, List.replicate s 0⟩⟩ (D := xs) ((HXC.out.below (Below.mono K3.out (Nat.le_refl _))).mono K3.out.size) ((HN.out.b.bytes.below (Below.mono K3.out (Nat.le_refl _))).mono K3.out.size) rfl (Nat.le_refl _)).mono ?_
    rintro e w4 ⟨A5, c5, rfl, o5, k5⟩
    have K4 : Hid (Keep wc w4) := K3.out.trans k5
    have x0'' := (K4.out.cell (p := ⟨q, 0, none⟩) HQL.out).trans x0
    have x1'' := (K4.out.cell (p := ⟨q, 1, none⟩) HQL.out).trans x1
    have O5 : Hid (Own w4 w3.heap.size 5 A5 s c5 _) := o5
    have O4' : Hid (Own w4 wc.heap.size 5 A4 g c4 _) := O4.out.keep k5
    have HQ4 : Hid (w4.heap[w.heap.size]? = some (.cells #[.slice none 0 0, .slice none 0 0] 38 (0, 0))) := ((HN.out.keep.trans K4.out).block _ HWL.out).trans HQ.out
    clear o5 k5 x0' x1' O4
    refine hK.out _ _ ⟨x0'', x1''⟩ (fun hHeld => ?_)
    clear hK K
    try simp only [Act.put, List.getElem_toArray, List.getElem_cons_succ, List.getElem_cons_zero, List.setIfInBounds_toArray, List.set_cons_zero, List.set_cons_succ]
    refine wpAnyH_take (i := 8) (v := ?_) rfl (by kernel_rfl) (by kernel_rfl) (by kernel_rfl) (fun _ _ _ h => h) (Or.inl ⟨by rfl, ?_⟩) hHeld ?_
    rotate_left
    · intro wq hSw
      go_simp
      all_goals with_reducible rfl
    try simp only [Act.put, List.getElem_toArray, List.getElem_cons_succ, List.getElem_cons_zero, List.setIfInBounds_toArray, List.set_cons_zero, List.set_cons_succ]
    have y0 : w4.cell? ⟨w.heap.size, 0, none⟩ = some (.slice none 0 0) := cell_of_row _ _ _ _ _ _ HQ4.out
    have y1 : w4.cell? ⟨w.heap.size, 1, none⟩ = some (.slice none 0 0) := cell_of_row _ _ _ _ _ _ HQ4.out
    have z0 : w4.frozen? ⟨w.heap.size, 0, none⟩ = false := by simp [World.frozen?, HQ4.out]
    have z1 : w4.frozen? ⟨w.heap.size, 1, none⟩ = false := by simp [World.frozen?, HQ4.out]
    refine wpAnyH_ready (rs := [9]) (by kernel_rfl) (by simp) ?_
    refine AllReadyH.cons rfl (fun K hK => ?_) AllReadyH.nil
    go_simp
    have hb5 := bset (i := 1) (bset (i := 0) HQ4.out (.slice A4 g c4)) (.slice A5 s c5)
    have K5 : Hid (Keep w ((w4.setCell ⟨w.heap.size, 0, none⟩ (.slice A4 g c4)).setCell ⟨w.heap.size, 1, none⟩ (.slice A5 s c5))) := (((K0.out.trans HN.out.keep).trans K4.out).setCell (a := ⟨w.heap.size, 0, none⟩) (Nat.le_refl _) _).setCell (a := ⟨w.heap.size, 1, none⟩) (Nat.le_refl _) _
    have hqn : w.heap.size ≠ q := by have := HN.out.ge; have := HWL.out; omega
    have O4 : Hid (Own ((w4.setCell ⟨w.heap.size, 0, none⟩ (.slice A4 g c4)).setCell ⟨w.heap.size, 1, none⟩ (.slice A5 s c5)) w.heap.size 5 A4 g c4 _) := ((O4'.out.lower (base' := w.heap.size + 1) (by have := HWL.out; have := HN.out.keep.size; omega)).far (fun e => by have := (O4'.out.1.lt _ e).1; have := HWL.out; have := HN.out.keep.size; simp at *; omega) _).far (fun e => by have := (O4'.out.1.lt _ e).1; have := HWL.out; have := HN.out.keep.size; simp at *; omega) _ |>.lower (by omega)
    have O5' : Hid (Own ((w4.setCell ⟨w.heap.size, 0, none⟩ (.slice A4 g c4)).setCell ⟨w.heap.size, 1, none⟩ (.slice A5 s c5)) w.heap.size 5 A5 s c5 _) := ((O5.out.lower (base' := w.heap.size + 1) (by have := HWL.out; have := HN.out.keep.size; have := K3.out.size; omega)).far (fun e => by have := (O5.out.1.lt _ e).1; have := HWL.out; have := HN.out.keep.size; have := K3.out.size; simp at *; omega) _).far (fun e => by have := (O5.out.1.lt _ e).1; have := HWL.out; have := HN.out.keep.size; have := K3.out.size; simp at *; omega) _ |>.lower (by omega)
    have x05 : ((w4.setCell ⟨w.heap.size, 0, none⟩ (.slice A4 g c4)).setCell ⟨w.heap.size, 1, none⟩ (.slice A5 s c5)).cell? ⟨q, 0, none⟩ = some (.slice A2 g g) := by rw [World.cell?_setCell_far _ _ _ _ hqn, World.cell?_setCell_far _ _ _ _ hqn]; exact x0''
    have x15 : ((w4.setCell ⟨w.heap.size, 0, none⟩ (.slice A4 g c4)).setCell ⟨w.heap.size, 1, none⟩ (.slice A5 s c5)).cell? ⟨q, 1, none⟩ = some (.slice A3 s s) := by rw [World.cell?_setCell_far _ _ _ _ hqn, World.cell?_setCell_far _ _ _ _ hqn]; exact x1''
    have HB5 : Hid (_ = _) := hb5
    clear hb5 y0 y1 z0 z1 O4' O5 K4 K3 HQ4 hqn
    generalize ((w4.setCell ⟨w.heap.size, 0, none⟩ (.slice A4 g c4)).setCell ⟨w.heap.size, 1, none⟩ (.slice A5 s c5)) = w5 at *
    refine hK.out _ _ ⟨x05, x15⟩ (fun hHeld => ?_)
    clear hK K
    try simp only [Act.put, List.getElem_toArray, List.getElem_cons_succ, List.getElem_cons_zero, List.setIfInBounds_toArray, List.set_cons_zero, List.set_cons_succ]
    refine wpAnyH_take (i := 10) (v := ?_) rfl (by kernel_rfl) (by kernel_rfl) (by kernel_rfl) (fun _ _ _ h => h) (Or.inl ⟨by rfl, ?_⟩) hHeld ?_
    rotate_left
    · intro wq hSw
      go_simp
      all_goals with_reducible rfl
    try simp only [Act.put, List.getElem_toArray, List.getElem_cons_succ, List.getElem_cons_zero, List.setIfInBounds_toArray, List.set_cons_zero, List.set_cons_succ]
    refine wpAnyH_done (by kernel_rfl) ?_ _
    refine NoPanic.normal ?_
    clear hHeld
    go_wp2_with fail
    refine bodyPost_ret (v := .tuple #[.agg #[.slice A4 g c4, .slice A5 s c5], .int .i64 0]) ?_ rfl ⟨A4, c4, A5, c5, rfl, O4.out, O5'.out, K5.out⟩
    exact results_cell_tmp (p := 4) (u := 5) (ty := 38) rfl _ _ w.heap.size 38 _ (0, 0) _ rfl HB5.out Tryz.underlying38 rfl infoRowSize
end
end Go.Proofs.YtifopodnceopjaaGreatDoor
