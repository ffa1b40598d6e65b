/- Matrices written out. -/
import Derived.Test.YtcmjglmagkjdoaaMats
namespace Go.Proofs.Ytcmjglmagkjdoaa
open Go.RowKit
set_option linter.unusedVariables false
set_option linter.unusedSimpArgs false
theorem Keep.obj {W w : World} (h : Keep W w) (o : Obj) : Keep W (w.alloc o) := Below.alloc h (Below.size h) o
theorem size_obj (w : World) (o : Obj) : (w.alloc o).heap.size = w.heap.size + 1 := by simp
theorem lit_row {w : World} {h : Nat} (hh : w.heap.size = h) (t : TypeId) (n : Nat) (xs : List Nat) (cs : Array Value) (hc : cs = (u8s xs).toArray) (hl : xs.length = n) (hx : AllB xs) : LiesIn (w.alloc (.cells cs t)) (fun b => b < h + 1) ⟨some ⟨h, 0, none⟩, n, n, xs⟩ :=
  ⟨hl, hx, Nat.le_refl _, fun hp => ⟨h, 0, rfl, by omega, fun i hi => by
    subst hh
    rw [cell_of_row _ _ _ _ _ _ (heap_alloc_new w _), hc, Nat.zero_add, List.getElem?_toArray, u8s_get]
    have hi2 : i < xs.length := by rw [hl]; exact hi
    simp [List.getD, hi2]⟩⟩
theorem LiesIn.obj {w : World} {h : Nat} {r : RowV} (k : LiesIn w (fun b => b < h) r) (o : Obj) : LiesIn (w.alloc o) (fun b => b < h) r :=
  k.turned (Turned.of_keep (F := fun _ => False) ((Keep.refl w).obj o)) fun _ _ e => e
theorem LiesIn.wider {w : World} {h h' : Nat} {r : RowV} (k : LiesIn w (fun b => b < h) r) (hh : h ≤ h') : LiesIn w (fun b => b < h') r := k.mono fun b hb => Nat.lt_of_lt_of_le hb hh
theorem lit_mat {w : World} {h : Nat} (hh : w.heap.size = h) (t : TypeId) (n : Nat) (rs : List RowV) (cs : Array Value) (hr : ∀ r ∈ rs, LiesIn w (fun b => b < h) r) (hc : cs = (rs.map RowV.val).toArray) (hl : rs.length = n) (M : List (List Nat)) (hM : rowsXs rs = M) : Mat (w.alloc (.cells cs t)) ⟨some ⟨h, 0, none⟩, n, n, M⟩ := by
  refine ⟨rs, ⟨hl, fun r h' => ((hr r h').obj _).mono fun b hb => by have hb : b < h := hb; rw [size_obj]; omega, fun hp => ⟨h, 0, rfl, by show h < _; rw [size_obj]; omega, fun i r hi => ?_⟩⟩, hM, Nat.le_refl _⟩
  subst hh
  rw [cell_of_row _ _ _ _ _ _ (heap_alloc_new w _), hc, Nat.zero_add, List.getElem?_toArray, List.getElem?_map, hi]; rfl
theorem lit1 {w : World} (t t' : TypeId) (n : Nat) (xs : List Nat) (cs ds : Array Value) (hc : cs = (u8s xs).toArray) (hl : xs.length = n) (hx : AllB xs) (hd : ds = #[.slice (some ⟨w.heap.size, 0, none⟩) n n]) :
    Mat ((w.alloc (.cells cs t)).alloc (.cells ds t')) ⟨some ⟨w.heap.size + 1, 0, none⟩, 1, 1, [xs]⟩ :=
  lit_mat (size_obj _ _) t' 1 [⟨some ⟨w.heap.size, 0, none⟩, n, n, xs⟩] ds (fun r hr => by
    rw [List.mem_singleton] at hr; subst hr; exact lit_row rfl t n xs cs hc hl hx) (by rw [hd]; rfl) rfl _ rfl
theorem lit2 {w : World} (t t' : TypeId) (n m : Nat) (xs ys : List Nat) (cs cs' ds : Array Value) (hc : cs = (u8s xs).toArray) (hl : xs.length = n) (hx : AllB xs) (hc' : cs' = (u8s ys).toArray) (hl' : ys.length = m) (hx' : AllB ys) (hd : ds = #[.slice (some ⟨w.heap.size, 0, none⟩) n n, .slice (some ⟨w.heap.size + 1, 0, none⟩) m m]) :
    Mat (((w.alloc (.cells cs t)).alloc (.cells cs' t)).alloc (.cells ds t')) ⟨some ⟨w.heap.size + 1 + 1, 0, none⟩, 2, 2, [xs, ys]⟩ :=
  lit_mat (by rw [size_obj, size_obj]) t' 2 [⟨some ⟨w.heap.size, 0, none⟩, n, n, xs⟩, ⟨some ⟨w.heap.size + 1, 0, none⟩, m, m, ys⟩] ds (fun r hr => by
    simp only [List.mem_cons, List.not_mem_nil, or_false] at hr
    rcases hr with rfl | rfl
    · exact ((lit_row rfl t n xs cs hc hl hx).obj _).wider (by omega)
    · exact lit_row (size_obj _ _) t m ys cs' hc' hl' hx') (by rw [hd]; rfl) rfl _ rfl
theorem lit3 {w : World} (t t' : TypeId) (n m k : Nat) (xs ys zs : List Nat) (cs cs' cs2 ds : Array Value) (hc : cs = (u8s xs).toArray) (hl : xs.length = n) (hx : AllB xs) (hc' : cs' = (u8s ys).toArray) (hl' : ys.length = m) (hx' : AllB ys) (hc2 : cs2 = (u8s zs).toArray) (hl2 : zs.length = k) (hx2 : AllB zs)
    (hd : ds = #[.slice (some ⟨w.heap.size, 0, none⟩) n n, .slice (some ⟨w.heap.size + 1, 0, none⟩) m m, .slice (some ⟨w.heap.size + 1 + 1, 0, none⟩) k k]) :
    Mat ((((w.alloc (.cells cs t)).alloc (.cells cs' t)).alloc (.cells cs2 t)).alloc (.cells ds t')) ⟨some ⟨w.heap.size + 1 + 1 + 1, 0, none⟩, 3, 3, [xs, ys, zs]⟩ :=
  lit_mat (by rw [size_obj, size_obj, size_obj]) t' 3 [⟨some ⟨w.heap.size, 0, none⟩, n, n, xs⟩, ⟨some ⟨w.heap.size + 1, 0, none⟩, m, m, ys⟩, ⟨some ⟨w.heap.size + 1 + 1, 0, none⟩, k, k, zs⟩] ds (fun r hr => by
    simp only [List.mem_cons, List.not_mem_nil, or_false] at hr
    rcases hr with rfl | rfl | rfl
    · exact (((lit_row rfl t n xs cs hc hl hx).obj _).obj _).wider (by omega)
    · exact ((lit_row (size_obj _ _) t m ys cs' hc' hl' hx').obj _).wider (by omega)
    · exact lit_row (by rw [size_obj, size_obj]) t k zs cs2 hc2 hl2 hx2) (by rw [hd]; rfl) rfl _ rfl
theorem mat_none (w : World) : Mat w ⟨none, 0, 0, []⟩ := ⟨[], RowsIn.nothing _ _ _, rfl, Nat.le_refl _⟩
end Go.Proofs.Ytcmjglmagkjdoaa
