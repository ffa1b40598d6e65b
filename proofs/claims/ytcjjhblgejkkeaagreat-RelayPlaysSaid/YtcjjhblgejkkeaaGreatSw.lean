/- Matrices side by side in memory: what is held of them on a walk; the code's contracts in those words. -/
import Derived.Test.YtcjjhblgejkkeaaGreatMcode
import Derived.Test.YtcjjhblgejkkeaaGreatMat
import Derived.Test.YtcjjhblgejkkeaaGreatRowsMk
import Derived.Test.YtcjjhblgejkkeaaGreatVA
import Derived.Laws.CopyOwn
import Derived.Test.YtcjjhblgejkkeaaGreatRowsApp
namespace Go.Proofs.YtcjjhblgejkkeaaGreat
open Go.RowKit
set_option linter.unusedVariables false
set_option linter.unusedSimpArgs false
structure MV where
  A : Option Addr
  n : Nat
  c : Nat
  M : List (List Nat)
/-- A matrix in memory. -/
def Mat (w : World) (x : MV) : Prop := ∃ rs, RowsIn w (· < w.heap.size) x.A x.n rs ∧ rowsXs rs = x.M ∧ x.n ≤ x.c
namespace Mat
variable {w w' : World} {x : MV}
theorem keep (h : Mat w x) (k : Keep w w') : Mat w' x := by
  obtain ⟨rs, h1, h2, h3⟩ := h
  exact ⟨rs, (h1.turned (Turned.of_keep (F := fun _ => False) k) fun _ _ e => e).mono fun b hb => Nat.lt_of_lt_of_le hb k.size, h2, h3⟩
theorem len (h : Mat w x) : x.M.length = x.n := by
  obtain ⟨rs, h1, h2, _⟩ := h
  rw [← h2, rowsXs_len, h1.1]
theorem of_owned {A : Option Addr} {n c : Nat} {M : List (List Nat)} {rs : List RowV} (h : OwnedRows w w' A n c M rs) : Mat w' ⟨A, n, c, M⟩ :=
  ⟨rs, h.rowsIn.mono fun b hb => hb.2, h.2.2.1, ownrows_le h.1⟩
end Mat
/-- Matrices, and what was there has not turned. -/
structure St (W w : World) (l : List MV) : Prop where
  mats : ∀ x ∈ l, Mat w x
  keep : Keep W w
namespace St
variable {W w w' : World} {l : List MV}
theorem start (W : World) : St W W [] := ⟨fun x hx => by simp at hx, Keep.refl W⟩
theorem later (h : St W w l) (k : Keep w w') : St W w' l := ⟨fun x hx => (h.mats x hx).keep k, h.keep.trans k⟩
theorem more {x : MV} (h : St W w l) (m : Mat w' x) (k : Keep w w') : St W w' (l ++ [x]) := ⟨fun y hy => by
  rcases List.mem_append.1 hy with e | e
  · exact (h.mats y e).keep k
  · rw [List.mem_singleton.1 e]; exact m, h.keep.trans k⟩
theorem get {x : MV} (h : St W w l) (i : Nat) (hx : l[i]? = some x) : Mat w x := h.mats x (List.mem_of_getElem? hx)
end St
def NewMat (w : World) (M : List (List Nat)) (er : Int) (e : Ending) (w' : World) : Prop :=
  ∃ A n c, e = .returned (.tuple #[.slice A n c, .int .i64 er]) ∧ Mat w' ⟨A, n, c, M⟩ ∧ Keep w w'
theorem NewMat.of_new {w w' : World} {M : List (List Nat)} {er : Int} {e : Ending} (h : NewOwned w M er e w') : NewMat w M er e w' := by
  obtain ⟨A, n, c, he, rs, ho⟩ := h
  exact ⟨A, n, c, he, Mat.of_owned ho, ho.2.2.2⟩
section
variable {w : World} {A A' : Option Addr} {n n' c c' : Nat} {M N : List (List Nat)}
theorem size_mat (h : Mat w ⟨A, n, c, M⟩) (hn : n ≤ 1000) :
    Calls Tryz.prog 117 #[.slice A n c] w fun e w' => e = .returned (.tuple #[.int .i64 (sizeR M : Nat), .int .i64 (sizeC M : Nat), .int .i64 (sizeE M)]) ∧ Keep w w' := by
  obtain ⟨rs, h1, rfl, h3⟩ := h
  exact msize_any n c A _ rs w h1 (fun _ e => e) hn
theorem reduce_mat (h : Mat w ⟨A, n, c, M⟩) (hn : n ≤ 1000) (hc : sizeC M ≤ 1000) :
    Calls Tryz.prog 120 #[.slice A n c] w (NewMat w (reduceN M) (sizeE M)) := by
  obtain ⟨rs, h1, rfl, h3⟩ := h
  exact (mreduce_any n c A _ rs w h1 (fun _ e => e) hn hc).mono fun _ _ => NewMat.of_new
end
end Go.Proofs.YtcjjhblgejkkeaaGreat
/- Matrices written out. -/
namespace Go.Proofs.YtcjjhblgejkkeaaGreat
open Go.RowKit
set_option linter.unusedVariables false
set_option linter.unusedSimpArgs false
theorem Keep.obj {W w : World} (h : Keep W w) (o : Obj) : Keep W (w.alloc o) := Below.alloc h (Below.size h) o
theorem size_obj (w : World) (o : Obj) : (w.alloc o).heap.size = w.heap.size + 1 := by simp
theorem lit_row {w : World} {h : Nat} (hh : w.heap.size = h) (t : TypeId) (n : Nat) (xs : List Nat) (cs : Array Value) (hc : cs = (u8s xs).toArray) (hl : xs.length = n) (hx : AllB xs) : LiesIn (w.alloc (.cells cs t)) (fun b => b < h + 1) ⟨some ⟨h, 0, none⟩, n, n, xs⟩ :=
  ⟨hl, hx, Nat.le_refl _, fun hp => ⟨h, 0, rfl, by omega, fun i hi => by
    subst hh
    rw [cell_of_row _ _ _ _ _ _ (heap_alloc_new w _), hc, Nat.zero_add, List.getElem?_toArray, u8s_get]
    have hi2 : i < xs.length := by rw [hl]; exact hi
    simp [List.getD, hi2]⟩⟩
theorem LiesIn.obj {w : World} {h : Nat} {r : RowV} (k : LiesIn w (fun b => b < h) r) (o : Obj) : LiesIn (w.alloc o) (fun b => b < h) r :=
  k.turned (Turned.of_keep (F := fun _ => False) ((Keep.refl w).obj o)) fun _ _ e => e
theorem LiesIn.wider {w : World} {h h' : Nat} {r : RowV} (k : LiesIn w (fun b => b < h) r) (hh : h ≤ h') : LiesIn w (fun b => b < h') r := k.mono fun b hb => Nat.lt_of_lt_of_le hb hh
theorem lit_mat {w : World} {h : Nat} (hh : w.heap.size = h) (t : TypeId) (n : Nat) (rs : List RowV) (cs : Array Value) (hr : ∀ r ∈ rs, LiesIn w (fun b => b < h) r) (hc : cs = (rs.map RowV.val).toArray) (hl : rs.length = n) (M : List (List Nat)) (hM : rowsXs rs = M) : Mat (w.alloc (.cells cs t)) ⟨some ⟨h, 0, none⟩, n, n, M⟩ := by
  refine ⟨rs, ⟨hl, fun r h' => ((hr r h').obj _).mono fun b hb => by have hb : b < h := hb; rw [size_obj]; omega, fun hp => ⟨h, 0, rfl, by show h < _; rw [size_obj]; omega, fun i r hi => ?_⟩⟩, hM, Nat.le_refl _⟩
  subst hh
  rw [cell_of_row _ _ _ _ _ _ (heap_alloc_new w _), hc, Nat.zero_add, List.getElem?_toArray, List.getElem?_map, hi]; rfl
theorem lit1 {w : World} (t t' : TypeId) (n : Nat) (xs : List Nat) (cs ds : Array Value) (hc : cs = (u8s xs).toArray) (hl : xs.length = n) (hx : AllB xs) (hd : ds = #[.slice (some ⟨w.heap.size, 0, none⟩) n n]) :
    Mat ((w.alloc (.cells cs t)).alloc (.cells ds t')) ⟨some ⟨w.heap.size + 1, 0, none⟩, 1, 1, [xs]⟩ :=
  lit_mat (size_obj _ _) t' 1 [⟨some ⟨w.heap.size, 0, none⟩, n, n, xs⟩] ds (fun r hr => by
    rw [List.mem_singleton] at hr; subst hr; exact lit_row rfl t n xs cs hc hl hx) (by rw [hd]; rfl) rfl _ rfl
theorem lit2 {w : World} (t t' : TypeId) (n m : Nat) (xs ys : List Nat) (cs cs' ds : Array Value) (hc : cs = (u8s xs).toArray) (hl : xs.length = n) (hx : AllB xs) (hc' : cs' = (u8s ys).toArray) (hl' : ys.length = m) (hx' : AllB ys) (hd : ds = #[.slice (some ⟨w.heap.size, 0, none⟩) n n, .slice (some ⟨w.heap.size + 1, 0, none⟩) m m]) :
    Mat (((w.alloc (.cells cs t)).alloc (.cells cs' t)).alloc (.cells ds t')) ⟨some ⟨w.heap.size + 1 + 1, 0, none⟩, 2, 2, [xs, ys]⟩ :=
  lit_mat (by rw [size_obj, size_obj]) t' 2 [⟨some ⟨w.heap.size, 0, none⟩, n, n, xs⟩, ⟨some ⟨w.heap.size + 1, 0, none⟩, m, m, ys⟩] ds (fun r hr => by
    simp only [List.mem_cons, List.not_mem_nil, or_false] at hr
    rcases hr with rfl | rfl
    · exact ((lit_row rfl t n xs cs hc hl hx).obj _).wider (by omega)
    · exact lit_row (size_obj _ _) t m ys cs' hc' hl' hx') (by rw [hd]; rfl) rfl _ rfl
theorem lit3 {w : World} (t t' : TypeId) (n m k : Nat) (xs ys zs : List Nat) (cs cs' cs2 ds : Array Value) (hc : cs = (u8s xs).toArray) (hl : xs.length = n) (hx : AllB xs) (hc' : cs' = (u8s ys).toArray) (hl' : ys.length = m) (hx' : AllB ys) (hc2 : cs2 = (u8s zs).toArray) (hl2 : zs.length = k) (hx2 : AllB zs)
    (hd : ds = #[.slice (some ⟨w.heap.size, 0, none⟩) n n, .slice (some ⟨w.heap.size + 1, 0, none⟩) m m, .slice (some ⟨w.heap.size + 1 + 1, 0, none⟩) k k]) :
    Mat ((((w.alloc (.cells cs t)).alloc (.cells cs' t)).alloc (.cells cs2 t)).alloc (.cells ds t')) ⟨some ⟨w.heap.size + 1 + 1 + 1, 0, none⟩, 3, 3, [xs, ys, zs]⟩ :=
  lit_mat (by rw [size_obj, size_obj, size_obj]) t' 3 [⟨some ⟨w.heap.size, 0, none⟩, n, n, xs⟩, ⟨some ⟨w.heap.size + 1, 0, none⟩, m, m, ys⟩, ⟨some ⟨w.heap.size + 1 + 1, 0, none⟩, k, k, zs⟩] ds (fun r hr => by
    simp only [List.mem_cons, List.not_mem_nil, or_false] at hr
    rcases hr with rfl | rfl | rfl
    · exact (((lit_row rfl t n xs cs hc hl hx).obj _).obj _).wider (by omega)
    · exact ((lit_row (size_obj _ _) t m ys cs' hc' hl' hx').obj _).wider (by omega)
    · exact lit_row (by rw [size_obj, size_obj]) t k zs cs2 hc2 hl2 hx2) (by rw [hd]; rfl) rfl _ rfl
theorem mat_none (w : World) : Mat w ⟨none, 0, 0, []⟩ := ⟨[], RowsIn.nothing _ _ _, rfl, Nat.le_refl _⟩
end Go.Proofs.YtcjjhblgejkkeaaGreat
/- Contracts for matrices of known sizes; matrices and rows side by side; matrices laid row by row; parts of matrices. -/
namespace Go.Proofs.YtcjjhblgejkkeaaGreat
open Go.RowKit
set_option linter.unusedVariables false
set_option linter.unusedSimpArgs false
section
variable {w : World} {A A' : Option Addr} {n n' c c' r k m : Nat} {M N : List (List Nat)}
theorem Mat.cnt (h : Mat w ⟨A, n, c, M⟩) (s : Sz r k M) : n = r := h.len.symm.trans s.1
theorem reduce_szm (h : Mat w ⟨A, n, c, M⟩) (s : Sz r k M) (hr : 1 ≤ r) (h1 : r ≤ 255) (h2 : k ≤ 255) : Calls Tryz.prog 120 #[.slice A n c] w (NewMat w (reduceN M) 0) := by
  have hh := reduce_mat h (by rw [h.cnt s]; omega) (by rw [s.sizeC hr]; omega)
  rw [s.sizeE] at hh
  exact hh
/-- A number of rows or columns, told by a byte. -/
def sixN (s : Nat) : Nat := 1 + s % 6
theorem sixN_le (s : Nat) : 1 ≤ sixN s ∧ sixN s ≤ 6 := by unfold sixN; omega
end
/-- Matrices, rows, and what was there has not turned. -/
structure Sr (W w : World) (l : List MV) (rs : List RowV) : Prop where
  st : St W w l
  rows : ∀ r ∈ rs, Bytes w w.heap.size r.A r.n r.xs
namespace Sr
variable {W w w' : World} {l : List MV} {rs : List RowV}
theorem start (W : World) : Sr W W [] [] := ⟨St.start W, fun x hx => by simp at hx⟩
theorem byte_later {r : RowV} (h : Bytes w w.heap.size r.A r.n r.xs) (k : Keep w w') : Bytes w' w'.heap.size r.A r.n r.xs := (h.keep (Nat.le_refl _) k).mono k.size
theorem later (h : Sr W w l rs) (k : Keep w w') : Sr W w' l rs := ⟨h.st.later k, fun r hr => byte_later (h.rows r hr) k⟩
theorem more {x : MV} (h : Sr W w l rs) (m : Mat w' x) (k : Keep w w') : Sr W w' (l ++ [x]) rs := ⟨h.st.more m k, fun r hr => byte_later (h.rows r hr) k⟩
theorem moreRow {r : RowV} (h : Sr W w l rs) (m : Bytes w' w'.heap.size r.A r.n r.xs) (k : Keep w w') : Sr W w' l (rs ++ [r]) := ⟨h.st.later k, fun y hy => by
  rcases List.mem_append.1 hy with e | e
  · exact byte_later (h.rows y e) k
  · rw [List.mem_singleton.1 e]; exact m⟩
theorem get {x : MV} (h : Sr W w l rs) (i : Nat) (hx : l[i]? = some x) : Mat w x := h.st.get i hx
theorem row {r : RowV} (h : Sr W w l rs) (i : Nat) (hx : rs[i]? = some r) : Bytes w w.heap.size r.A r.n r.xs := h.rows r (List.mem_of_getElem? hx)
theorem keep (h : Sr W w l rs) : Keep W w := h.st.keep
end Sr
theorem Mat.rowsAt {w : World} {A : Option Addr} {n c r k : Nat} {M : List (List Nat)} (h : Mat w ⟨A, n, c, M⟩) (s : Sz r k M) (hk : k ≤ 1000) : ∃ rs, RowsIn w (· < w.heap.size) A n rs ∧ rowsXs rs = M ∧ (∀ y ∈ rs, y.n = k) := by
  obtain ⟨rs, h1, h2, h3⟩ := h
  refine ⟨rs, h1, h2, fun y hy => ?_⟩
  rw [← (h1.2.1 y hy).1]
  have hm : y.xs ∈ rowsXs rs := List.mem_map.2 ⟨y, hy, rfl⟩
  rw [h2] at hm
  exact (s.2 y.xs hm).1
theorem RowsIn.at_rows {w : World} {B : Nat} {A : Option Addr} {n k : Nat} {rs : List RowV} (h : RowsIn w (· < B) A n rs) (hn : ∀ y ∈ rs, y.n = k) (hk : k ≤ 1000) : RowsAt w B A n rs :=
  ⟨h.1, fun r hr => ⟨(h.2.1 r hr).bytes fun _ e => e, by rw [hn r hr]; omega, (h.2.1 r hr).2.2.1⟩, h.2.2⟩
/-- vector.Combine. -/
theorem comb_mat {w : World} {A A' : Option Addr} {n n' c c' r k B : Nat} {M : List (List Nat)} {row : List Nat} (h : Mat w ⟨A, n, c, M⟩) (s : Sz r k M) (hr : 1 ≤ r) (h1 : r ≤ 255) (h2 : k ≤ 255) (hb : Bytes w B A' n' row) (hB : B ≤ w.heap.size) (hn' : n' = r) :
    Calls Tryz.prog 83 #[.slice A n c, .slice A' n' c'] w (NewPair w (vComb k M row r) 0) := by
  obtain rfl : n = n' := (h.cnt s).trans hn'.symm
  subst hn'
  obtain ⟨rs, e1, e2, e3⟩ := h.rowsAt s (by omega)
  obtain ⟨r0, hr0⟩ : ∃ r0, rs[0]? = some r0 := ⟨_, List.getElem?_eq_getElem (by rw [e1.1]; omega)⟩
  have hall : ∀ y ∈ rs, y.n = r0.n := fun y hy => by rw [e3 y hy, e3 r0 (List.mem_of_getElem? hr0)]
  have hh := vcomb_any (w.heap.size) B n c c' A A' rs row w (e1.at_rows e3 (by omega)) hb (Nat.le_refl _) hB (by omega) (by omega) r0 hr0
  rw [combOf, if_pos hall, combErr, if_pos hall, e3 r0 (List.mem_of_getElem? hr0), e1.1] at hh
  rw [show rowsOf rs = M from e2] at hh
  exact hh
/-- A row made and filled. -/
def fillN (xs : List Nat) (n : Nat) : List Nat := xs.take n ++ List.replicate (n - xs.length) 0
theorem fillN_len (xs : List Nat) (n : Nat) : (fillN xs n).length = n := by simp [fillN]; omega
theorem fillN_all {xs : List Nat} (h : AllB xs) (n : Nat) : AllB (fillN xs n) := (h.take n).append (AllB.zeros _)
theorem run_copy_fill {P : Program} {w : World} {B m n c ty t e : Nat} {A : Option Addr} {xs : List Nat} (ht : P.underlying t = some (.slice e)) (hs : (P.info? e).map (·.size) = some 1) (h : Bytes w B A m xs) (hB : B ≤ w.heap.size) (hn : n ≤ 140737488355328) :
    ∃ w' v, (Builtin.copy_ #[t, t] ty #[.slice (some ⟨w.heap.size, 0, none⟩) n n, .slice A m c]).run P (w.alloc (.cells (madeCells #[.int .u8 0] n) e)) = .ok v w' ∧ Own w' w.heap.size e (some ⟨w.heap.size, 0, none⟩) n n (fillN xs n) ∧ Keep w w' := by
  have ha := heap_alloc_new w (.cells (madeCells #[.int .u8 0] n) e)
  have hz : (madeCells #[Value.int .u8 0] n).toList = u8s (List.replicate n 0) := by rw [toList_madeCells_one, u8s_zeros]
  by_cases h0 : min m n = 0
  · have hf : fillN xs n = List.replicate n 0 := by
      have := h.length
      rcases (show m = 0 ∨ n = 0 by omega) with e | e
      · rw [fillN, List.eq_nil_of_length_eq_zero (this.trans e)]; simp
      · rw [fillN, e]; simp
    exact ⟨_, _, run_copy_none _ t t ty e _ A n n m c ht hs h0, hf ▸ Own.made w e n hn, (Keep.refl w).alloc _ _⟩
  · obtain ⟨b, off, rfl, _, _⟩ := h.2.2 (by omega)
    have hl : (u8s (xs.take n)).length = min m n := by rw [u8s_length, List.length_take, h.length]; omega
    have hr := run_copy_row (P := P) (w.alloc (.cells (madeCells #[.int .u8 0] n) e)) t t ty e w.heap.size 0 n n ⟨b, off, none⟩ m c (madeCells #[.int .u8 0] n) e (u8s (xs.take n)) ht hs ha hl (fun j v hv => (h.alloc hB _).cells (by omega) j v (by
      rw [u8s_get] at hv ⊢
      rw [List.getElem?_take] at hv
      split at hv
      · exact hv
      · cases hv)) (by rw [size_madeCells, hl]; simp; omega) (u8s_one _)
    refine ⟨_, _, hr, ?_, ((Keep.refl w).alloc _ _).setRow (Nat.le_refl _) ha⟩
    have hc : ((madeCells #[Value.int .u8 0] n).toList.take 0 ++ u8s (xs.take n) ++ (madeCells #[Value.int .u8 0] n).toList.drop (0 + (u8s (xs.take n)).length)) = u8s (fillN xs n) := by
      rw [List.take_zero, List.nil_append, hz, fillN, u8s_append, hl]
      congr 1
      simp only [u8s, List.map_replicate, List.drop_replicate]
      congr 1
      have := h.length
      omega
    refine ⟨⟨by rw [u8s_length, fillN_len]; simp, Or.inr ⟨w.heap.size, n, _, rfl, Nat.le_refl _, by rw [setRow_heap _ _ _ _ _ _ ha, hc], Nat.le_refl _, by unfold maxLen; omega, by simp [u8s_length, fillN_len], ?_⟩⟩, fillN_all h.all n⟩
    rw [List.toList_toArray, List.take_of_length_le (by rw [u8s_length, fillN_len]; simp)]
/-- A list of rows that is being laid: its own block new, its rows anywhere else. -/
def Lay (W w : World) (A : Option Addr) (n c : Nat) (rs : List RowV) : Prop :=
  OwnRows w W.heap.size 32 A n c rs ∧ (∀ r ∈ rs, LiesIn w (fun b => b < w.heap.size ∧ ¬ (Value.slice A n c).ownBlock = some b) r) ∧ Keep W w
namespace Lay
variable {W w w' : World} {A A2 : Option Addr} {n c m c2 : Nat} {rs news : List RowV}
theorem nothing (W : World) : Lay W W none 0 0 [] := ⟨OwnRows.none_ _ _ _, fun r hr => by simp at hr, Keep.refl W⟩
theorem keep (h : Lay W w A n c rs) : Keep W w := h.2.2
theorem later (h : Lay W w A n c rs) (k : Keep w w') : Lay W w' A n c rs :=
  ⟨h.1.keep k, fun r hr => ((h.2.1 r hr).turned (Turned.of_keep (F := fun _ => False) k) fun _ _ e => e).mono fun b hb => ⟨Nat.lt_of_lt_of_le hb.1 k.size, hb.2⟩, h.2.2.trans k⟩
theorem mat (h : Lay W w A n c rs) : Mat w ⟨A, n, c, rowsXs rs⟩ :=
  ⟨rs, RowsIn.of_own h.1 (fun r hr => (h.2.1 r hr).mono fun b hb => hb.1) (fun b hb => (h.1.lt b hb).2), rfl, ownrows_le h.1⟩
theorem added (h : Lay W w A n c rs) (hn : ∀ r ∈ news, LiesIn w (fun b => b < w.heap.size ∧ ¬ (Value.slice A n c).ownBlock = some b) r) (o2 : OwnRows w' W.heap.size 32 A2 m c2 (rs ++ news)) (hgr : w.grownBy w' (Value.slice A n c).ownBlock)
    (hb : (Value.slice A2 m c2).ownBlock = (Value.slice A n c).ownBlock ∨ (Value.slice A2 m c2).ownBlock = some w.heap.size) : Lay W w' A2 m c2 (rs ++ news) := by
  have kT : Turned (fun b => (Value.slice A n c).ownBlock = some b) w w' := Turned.of_grown hgr fun i e => e
  have key : ∀ r, LiesIn w (fun b => b < w.heap.size ∧ ¬ (Value.slice A n c).ownBlock = some b) r → LiesIn w' (fun b => b < w'.heap.size ∧ ¬ (Value.slice A2 m c2).ownBlock = some b) r := fun r hr =>
    (hr.turned kT fun b hb e => hb.2 e).mono fun b hb' => ⟨Nat.lt_of_lt_of_le hb'.1 hgr.size, fun e => by
      rcases hb with h1 | h1
      · exact hb'.2 (h1 ▸ e)
      · rw [h1] at e; injection e with e; omega⟩
  refine ⟨o2, fun r hr => ?_, h.2.2.grown hgr fun k hk => h.1.rowLe k hk⟩
  rcases List.mem_append.1 hr with hr | hr
  · exact key r (h.2.1 r hr)
  · exact key r (hn r hr)
/-- Rows that were there before lie apart. -/
theorem old (h : Lay W w A n c rs) {r : RowV} (hr : LiesIn W (fun b => b < W.heap.size) r) : LiesIn w (fun b => b < w.heap.size ∧ ¬ (Value.slice A n c).ownBlock = some b) r :=
  (hr.turned (Turned.of_keep (F := fun _ => False) h.2.2) fun _ _ e => e).mono fun b hb => ⟨Nat.lt_of_lt_of_le hb h.2.2.size, fun e => by have := h.1.rowLe b e; omega⟩
/-- Rows of one's own lie apart. -/
theorem own (h : Lay W w A n c rs) {B nr cr : Nat} {Ar : Option Addr} {xs : List Nat} (o : Own w B 5 Ar nr cr xs) : LiesIn w (fun b => b < w.heap.size ∧ ¬ (Value.slice A n c).ownBlock = some b) ⟨Ar, nr, cr, xs⟩ :=
  o.lies.mono fun b hb => ⟨(o.1.lt b hb).2, fun e => by
    rcases blocks_apart o h.1 (by decide) with z | z
    · rw [z] at hb; cases hb
    · exact z (hb.trans e.symm)⟩
end Lay
/-- append(list, matrix...). -/
theorem wp_append_lay {o : Oper} {a : Act} {w : World} {K : Act → World → Prop} {Q : Exit → Act → World → Prop} (s x : Operand) (t : TypeId)
    (ho : o.op = .call { callee := .builtin .append, args := #[s, x], argTypes := #[t, t] }) {W : World} {A B : Option Addr} {n c m cx : Nat} {rs : List RowV} {N : List (List Nat)} (ht : Tryz.prog.underlying t = some (.slice 32))
    (hs : a.eval s = .slice A n c) (hL : Lay W w A n c rs) (hx0 : a.eval x = .slice B m cx) (hM : Mat W ⟨B, m, cx, N⟩) (k : Nat) (hk : n + m = k) (hlen : k ≤ 1000000)
    (h : ∀ A2 c2 w' rs', Lay W w' A2 k c2 rs' → rowsXs rs' = rowsXs rs ++ N → K (a.put o.dst (.slice A2 k c2)) w') : o.wp Tryz.prog a w K Q := by
  subst hk
  obtain ⟨rt, e1, rfl, e3⟩ := hM
  refine wp_append_rows s x t ho ht infoRow hs hL.1 hx0 e1.1 (fun hp => ?_) hlen hL.2.2.size fun A2 c2 w' h2 h3 h4 => h A2 c2 w' (rs ++ rt) (hL.added (fun r hr => hL.old (e1.2.1 r hr)) h2 h3 h4) (by simp [rowsXs])
  obtain ⟨b, off, e, hb, hc⟩ := e1.2.2 hp
  exact ⟨b, off, e, fun i r hi => (Below.cell (p := ⟨b, off + i, none⟩) hL.2.2 hb).trans (hc i r hi)⟩
theorem wpList_append_lay {ops : Array Oper} {rest : List Oper} {o : Oper} {a : Act} {w : World} {Q : Exit → Act → World → Prop} (hgd : o.guard = none) (s x : Operand) (t : TypeId)
    (ho : o.op = .call { callee := .builtin .append, args := #[s, x], argTypes := #[t, t] }) {W : World} {A B : Option Addr} {n c m cx : Nat} {rs : List RowV} {N : List (List Nat)} (ht : Tryz.prog.underlying t = some (.slice 32))
    (hs : a.eval s = .slice A n c) (hL : Lay W w A n c rs) (hx0 : a.eval x = .slice B m cx) (hM : Mat W ⟨B, m, cx, N⟩) (k : Nat) (hk : n + m = k) (hlen : k ≤ 1000000)
    (h : ∀ A2 c2 w' rs', Lay W w' A2 k c2 rs' → rowsXs rs' = rowsXs rs ++ N → wpList Tryz.prog ops Q rest (a.put o.dst (.slice A2 k c2)) w') : wpList Tryz.prog ops Q (o :: rest) a w :=
  wpList_plain hgd fun _ hK => wp_append_lay s x t ho ht hs hL hx0 hM k hk hlen fun A2 c2 w' rs' h1 h2 => hK _ _ (h A2 c2 w' rs' h1 h2)
/-- append(list, row), the row in a block of one behind. -/
theorem wpList_append_layrow {ops : Array Oper} {rest : List Oper} {o : Oper} {a : Act} {w : World} {Q : Exit → Act → World → Prop} (hgd : o.guard = none) (s x : Operand) (t : TypeId)
    (ho : o.op = .call { callee := .builtin .append, args := #[s, x], argTypes := #[t, t] }) {W : World} {A : Option Addr} {n c cx : Nat} {rs : List RowV} (r : RowV) (t' : TypeId) (ht : Tryz.prog.underlying t = some (.slice 32))
    (hs : a.eval s = .slice A n c) (hL : Lay W w A n c rs) (hr : LiesIn w (fun b => b < w.heap.size ∧ ¬ (Value.slice A n c).ownBlock = some b) r) (hx0 : a.eval x = .slice (some ⟨w.heap.size, 0, none⟩) 1 cx) (hlen : n ≤ 1000000)
    (h : ∀ A2 c2 w', Lay W w' A2 (n + 1) c2 (rs ++ [r]) → wpList Tryz.prog ops Q rest (a.put o.dst (.slice A2 (n + 1) c2)) w') : wpList Tryz.prog ops Q (o :: rest) a (w.alloc (.cells #[.slice r.A r.n r.c] t')) := by
  have hL2 := hL.later ((Keep.refl w).alloc #[.slice r.A r.n r.c] t')
  refine wpList_append_row hgd s x t ho r ht infoRow hs hL2.1 hx0 (by rw [World.cell?_alloc_new]; rfl) hlen hL2.2.2.size fun A2 c2 w' h2 h3 h4 => h A2 c2 w' (hL2.added (fun y hy => ?_) h2 h3 h4)
  rw [List.mem_singleton] at hy; subst hy
  exact (hr.turned (Turned.of_keep (F := fun _ => False) ((Keep.refl w).alloc _ _)) fun _ _ e => e).mono fun b hb => ⟨Nat.lt_of_lt_of_le hb.1 (by rw [size_obj]; omega), hb.2⟩
namespace Lay
variable {W w w' : World} {A : Option Addr} {n c g i : Nat} {rs : List RowV}
theorem stored (h : Lay W w (some ⟨g, 0, none⟩) n c rs) (r : RowV) (hr : LiesIn w (fun b => b < w.heap.size ∧ ¬ (Value.slice (some ⟨g, 0, none⟩) n c).ownBlock = some b) r) (i : Nat) : Lay W (w.setCell ⟨g, i, none⟩ (.slice r.A r.n r.c)) (some ⟨g, 0, none⟩) n c (rs.set i r) := by
  have kT : Turned (fun b => b = g) w (w.setCell ⟨g, i, none⟩ (.slice r.A r.n r.c)) := Turned.set (F := fun b => b = g) _ _ _ rfl
  have key : ∀ y, LiesIn w (fun b => b < w.heap.size ∧ ¬ (Value.slice (some ⟨g, 0, none⟩) n c).ownBlock = some b) y → LiesIn (w.setCell ⟨g, i, none⟩ (.slice r.A r.n r.c)) (fun b => b < (w.setCell ⟨g, i, none⟩ (.slice r.A r.n r.c)).heap.size ∧ ¬ (Value.slice (some ⟨g, 0, none⟩) n c).ownBlock = some b) y := fun y hy =>
    (hy.turned kT fun b hb e => hb.2 (by rw [e]; rfl)).mono fun b hb => ⟨Nat.lt_of_lt_of_le hb.1 kT.size, hb.2⟩
  refine ⟨h.1.stored r, fun y hy => ?_, h.2.2.setCell (h.1.rowLe g rfl) _⟩
  rcases List.mem_or_eq_of_mem_set hy with hy | rfl
  · exact key y (h.2.1 y hy)
  · exact key _ hr
theorem row_at (h : Lay W w A n c rs) (hi : i < n) : ∃ g r, A = some ⟨g, 0, none⟩ ∧ W.heap.size ≤ g ∧ g < w.heap.size ∧ rs[i]? = some r ∧ w.cell? ⟨g, i, none⟩ = some (.slice r.A r.n r.c) ∧ w.frozen? ⟨g, i, none⟩ = false ∧ Bytes w w.heap.size r.A r.n r.xs := by
  obtain ⟨g, rfl, hg, hgl⟩ := h.1.block (by omega)
  have hil : i < rs.length := by rw [h.1.length]; exact hi
  refine ⟨g, rs[i], rfl, hg, hgl, List.getElem?_eq_getElem hil, ?_, World.ownsRow.frozenAt h.1 i, (h.2.1 _ (List.getElem_mem hil)).bytes fun b hb => hb.1⟩
  have hc := World.ownsRow.cells h.1 (g := g) rfl i (rs[i]).val (by rw [List.getElem?_map, List.getElem?_eq_getElem hil]; rfl)
  have haa : (⟨g, 0, none⟩ : Addr).add i = ⟨g, i, none⟩ := by unfold Addr.add; split <;> simp_all
  rwa [haa] at hc
theorem xs_set (rs : List RowV) (i : Nat) (r : RowV) : rowsXs (rs.set i r) = (rowsXs rs).set i r.xs := by rw [rowsXs, List.map_set]; rfl
end Lay
/-- append(list, row), in a region, the row anywhere. -/
theorem wp_append_layrow_at {o : Oper} {a : Act} {w : World} {K : Act → World → Prop} {Q : Exit → Act → World → Prop} (s x : Operand) (t : TypeId)
    (ho : o.op = .call { callee := .builtin .append, args := #[s, x], argTypes := #[t, t] }) {W : World} {A : Option Addr} {n c cx : Nat} {rs : List RowV} {ad : Addr} (r : RowV) (ht : Tryz.prog.underlying t = some (.slice 32))
    (hs : a.eval s = .slice A n c) (hL : Lay W w A n c rs) (hr : LiesIn w (fun b => b < w.heap.size ∧ ¬ (Value.slice A n c).ownBlock = some b) r) (hx0 : a.eval x = .slice (some ad) 1 cx) (hx : w.cell? ad = some (.slice r.A r.n r.c)) (hlen : n ≤ 1000000)
    (h : ∀ A2 c2 w', Lay W w' A2 (n + 1) c2 (rs ++ [r]) → K (a.put o.dst (.slice A2 (n + 1) c2)) w') : o.wp Tryz.prog a w K Q :=
  wp_append_row s x t ho r ht infoRow hs hL.1 hx0 hx hlen hL.2.2.size fun A2 c2 w' h2 h3 h4 => h A2 c2 w' (hL.added (fun y hy => by rw [List.mem_singleton] at hy; subst hy; exact hr) h2 h3 h4)
/-- append(list, row), in a region. -/
theorem wp_append_layrow {o : Oper} {a : Act} {w : World} {K : Act → World → Prop} {Q : Exit → Act → World → Prop} (s x : Operand) (t : TypeId)
    (ho : o.op = .call { callee := .builtin .append, args := #[s, x], argTypes := #[t, t] }) {W : World} {A : Option Addr} {n c cx : Nat} {rs : List RowV} (r : RowV) (t' : TypeId) (ht : Tryz.prog.underlying t = some (.slice 32))
    (hs : a.eval s = .slice A n c) (hL : Lay W w A n c rs) (hr : LiesIn w (fun b => b < w.heap.size ∧ ¬ (Value.slice A n c).ownBlock = some b) r) (hx0 : a.eval x = .slice (some ⟨w.heap.size, 0, none⟩) 1 cx) (hlen : n ≤ 1000000)
    (h : ∀ A2 c2 w', Lay W w' A2 (n + 1) c2 (rs ++ [r]) → K (a.put o.dst (.slice A2 (n + 1) c2)) w') : o.wp Tryz.prog a (w.alloc (.cells #[.slice r.A r.n r.c] t')) K Q := by
  have hL2 := hL.later ((Keep.refl w).alloc #[.slice r.A r.n r.c] t')
  refine wp_append_row s x t ho r ht infoRow hs hL2.1 hx0 (by rw [World.cell?_alloc_new]; rfl) hlen hL2.2.2.size fun A2 c2 w' h2 h3 h4 => h A2 c2 w' (hL2.added (fun y hy => ?_) h2 h3 h4)
  rw [List.mem_singleton] at hy; subst hy
  exact (hr.turned (Turned.of_keep (F := fun _ => False) ((Keep.refl w).alloc _ _)) fun _ _ e => e).mono fun b hb => ⟨Nat.lt_of_lt_of_le hb.1 (by rw [size_obj]; omega), hb.2⟩
/-- A row of a matrix. -/
theorem Mat.row_at {w : World} {A : Option Addr} {n c r k i : Nat} {M : List (List Nat)} (h : Mat w ⟨A, n, c, M⟩) (s : Sz r k M) (hi : i < r) :
    ∃ b off Ay cy, A = some ⟨b, off, none⟩ ∧ b < w.heap.size ∧ w.cell? ⟨b, off + i, none⟩ = some (.slice Ay k cy) ∧ Bytes w w.heap.size Ay k (M.getD i []) ∧ k ≤ cy ∧ LiesIn w (fun b => b < w.heap.size) ⟨Ay, k, cy, M.getD i []⟩ := by
  have hn := h.cnt s
  obtain ⟨rs, e1, rfl, e3⟩ := h
  obtain ⟨b, off, y, e, hb, hy, hc, hl⟩ := e1.at_ (k := i) (by show i < n; omega)
  have hx : (rowsXs rs).getD i [] = y.xs := rowsXs_at hy
  have hyn : y.n = k := by rw [← hl.1, ← hx]; exact (s.at_ hi).1
  obtain ⟨Ay, ny, cy, ys⟩ := y
  have hyn : ny = k := hyn
  have hx : (rowsXs rs).getD i [] = ys := hx
  subst hyn; subst hx
  exact ⟨b, off, Ay, cy, e, hb, hc, hl.bytes fun _ e => e, hl.2.2.1, hl⟩
theorem Mat.take {w : World} {A : Option Addr} {n c k : Nat} {M : List (List Nat)} (h : Mat w ⟨A, n, c, M⟩) (hk : k ≤ n) : Mat w ⟨A, k, c, M.take k⟩ := by
  obtain ⟨rs, e1, rfl, e3⟩ := h
  refine ⟨rs.take k, ⟨by rw [List.length_take, e1.1]; exact Nat.min_eq_left hk, fun r hr => e1.2.1 r (List.mem_of_mem_take hr), fun hp => ?_⟩, by simp [rowsXs, List.map_take], Nat.le_trans hk e3⟩
  have hp2 : 0 < k := hp
  obtain ⟨b, off, e, hb, hc⟩ := e1.2.2 (by show 0 < n; omega)
  refine ⟨b, off, e, hb, fun i r hi => hc i r ?_⟩
  rw [List.getElem?_take] at hi
  split at hi
  · exact hi
  · cases hi
theorem Mat.drop {w : World} {A : Option Addr} {n c k : Nat} {M : List (List Nat)} (h : Mat w ⟨A, n, c, M⟩) : Mat w ⟨dropA A c k, n - k, c - k, M.drop k⟩ := by
  obtain ⟨rs, e1, rfl, e3⟩ := h
  have e3 : n ≤ c := e3
  exact ⟨rs.drop k, e1.drop e3, by simp [rowsXs, List.map_drop], by show n - k ≤ c - k; omega⟩
theorem Sz.sizeC_le {r k : Nat} {M : List (List Nat)} (s : Sz r k M) : Go.Proofs.YtcjjhblgejkkeaaGreat.sizeC M ≤ k := by
  rcases Nat.eq_zero_or_pos r with h | h
  · obtain rfl : M = [] := List.eq_nil_of_length_eq_zero (s.1.trans h)
    exact Nat.zero_le _
  · rw [s.sizeC h]; exact Nat.le_refl _
theorem reduce_sz0 {w : World} {A : Option Addr} {n c r k : Nat} {M : List (List Nat)} (h : Mat w ⟨A, n, c, M⟩) (s : Sz r k M) (h1 : r ≤ 255) (h2 : k ≤ 255) : Calls Tryz.prog 120 #[.slice A n c] w (NewMat w (reduceN M) 0) := by
  have hh := reduce_mat h (by rw [h.cnt s]; omega) (by have := s.sizeC_le; omega)
  rw [s.sizeE] at hh
  exact hh
end Go.Proofs.YtcjjhblgejkkeaaGreat
