/- The document's examples of layer 9: awake. -/
import Derived.Test.YtcafofffgmaepaaPe1
import Derived.Test.YtcafofffgmaepaaQref
import Derived.Test.YtcafofffgmaepaaEqual
import Derived.Lib.SlBytesConst
namespace Go.Proofs.Ytcafofffgmaepaa
open Go.RowKit
set_option linter.unusedVariables false
set_option linter.unusedSimpArgs false
theorem Keep.ob {W w : World} (h : Keep W w) (o : Obj) : Keep W (w.alloc o) := Below.alloc h (Below.size h) o
theorem size_ob (w : World) (o : Obj) : (w.alloc o).heap.size = w.heap.size + 1 := by simp
/-- A slice of bytes written out. -/
theorem Bytes.wri {w : World} {h : Nat} (hh : w.heap.size = h) (t : TypeId) (fr : Nat × Nat) (n : Nat) (xs : List Nat) (cs : Array Value) (hc : cs = (u8s xs).toArray) (hl : xs.length = n) (hx : AllB xs) : Bytes (w.alloc (.cells cs t fr)) (w.alloc (.cells cs t fr)).heap.size (some ⟨h, 0, none⟩) n xs := by
  subst hh
  refine ⟨hl, hx, fun _ => ⟨_, 0, rfl, by simp, fun i hi => ?_⟩⟩
  rw [cell_of_row _ _ _ _ _ _ (heap_alloc_new w _), hc, Nat.zero_add, List.getElem?_toArray, u8s_get]
  have hi2 : i < xs.length := by omega
  simp [List.getD, hi2]
def i64s (l : List Int) : List Value := l.map fun z => .int .i64 z
/-- A slice of ints written out. -/
theorem IntsAt.wri {w : World} {h : Nat} (hh : w.heap.size = h) (t : TypeId) (n : Nat) (l : List Int) (cs : Array Value) (hc : cs = (i64s l).toArray) (hl : l.length = n) : IntsAt (w.alloc (.cells cs t)) (w.alloc (.cells cs t)).heap.size (some ⟨h, 0, none⟩) n l := by
  subst hh
  refine ⟨hl, fun _ => ⟨_, 0, rfl, by simp, fun i z hi => ?_⟩⟩
  rw [cell_of_row _ _ _ _ _ _ (heap_alloc_new w _), hc, Nat.zero_add, List.getElem?_toArray, i64s, List.getElem?_map, hi]
  rfl
theorem Bytes.up {w w' : World} {A : Option Addr} {n : Nat} {xs : List Nat} (h : Bytes w w.heap.size A n xs) (k : Keep w w') : Bytes w' w'.heap.size A n xs := (h.keep (Nat.le_refl _) k).mono k.size
theorem RowsAt.upon {w w' : World} {A : Option Addr} {n : Nat} {rs : List RowV} (h : RowsAt w w.heap.size A n rs) (k : Keep w w') : RowsAt w' w'.heap.size A n rs := by
  have h1 := h.keep (Nat.le_refl _) k
  exact ⟨h1.1, fun r hr => ⟨(h1.2.1 r hr).1.mono k.size, (h1.2.1 r hr).2⟩, fun hn => by
    obtain ⟨b, off, e, hb, hcc⟩ := h1.2.2 hn
    exact ⟨b, off, e, Nat.lt_of_lt_of_le hb k.size, hcc⟩⟩
theorem IntsAt.upon {w w' : World} {A : Option Addr} {n : Nat} {l : List Int} (h : IntsAt w w.heap.size A n l) (k : Keep w w') : IntsAt w' w'.heap.size A n l := by
  have h1 := h.keep (Nat.le_refl _) k
  exact ⟨h1.1, fun hp => by
    obtain ⟨b, off, e, hb, hcc⟩ := h1.2 hp
    exact ⟨b, off, e, Nat.lt_of_lt_of_le hb k.size, hcc⟩⟩
/-- Rows as an argument that is read. -/
theorem RowsIn.rowsAt {w : World} {F : Nat → Prop} {A : Option Addr} {n : Nat} {rs : List RowV} (h : RowsIn w F A n rs) (hF : ∀ b, F b → b < w.heap.size) (hx : ∀ x ∈ rowsXs rs, x.length ≤ 140737488351232) : RowsAt w w.heap.size A n rs :=
  ⟨h.1, fun r hr => ⟨(h.2.1 r hr).bytes hF, by rw [← (h.2.1 r hr).1]; exact hx r.xs (List.mem_map.2 ⟨r, hr, rfl⟩), (h.2.1 r hr).2.2.1⟩, fun hn => by
    obtain ⟨b, off, e, hb, hcc⟩ := h.2.2 hn
    exact ⟨b, off, e, hF b hb, hcc⟩⟩
theorem RowsAt.rowsIn {w : World} {B : Nat} {A : Option Addr} {n : Nat} {rs : List RowV} (h : RowsAt w B A n rs) : RowsIn w (fun b => b < B) A n rs :=
  ⟨h.1, fun r hr => LiesIn.of_bytes (h.2.1 r hr).1 (h.2.1 r hr).2.2, h.2.2⟩
theorem rowsOf_xs (rs : List RowV) : rowsOf rs = rowsXs rs := rfl
/-- Rows written out, of slices of bytes that are known. -/
theorem RowsAt.wri {w : World} {h : Nat} (hh : w.heap.size = h) (t : TypeId) (n : Nat) (rs : List RowV) (cs : Array Value) (hc : cs = (rs.map RowV.val).toArray) (hl : rs.length = n) (hr : ∀ r ∈ rs, Bytes w w.heap.size r.A r.n r.xs ∧ r.n ≤ 140737488351232 ∧ r.n ≤ r.c) :
    RowsAt (w.alloc (.cells cs t)) (w.alloc (.cells cs t)).heap.size (some ⟨h, 0, none⟩) n rs := by
  have := RowsAt.lit (w := w) rfl t n rs cs hc hl hr
  rw [hh, ← hh, ← size_ob w (.cells cs t), hh] at this
  exact this
/-- Two rows written out. -/
theorem two_wri (w : World) (t u : TypeId) (fr fr' : Nat × Nat) (m k : Nat) (xs ys : List Nat) (cs ds es : Array Value) (hc : cs = (u8s xs).toArray) (hd : ds = (u8s ys).toArray) (hl : xs.length = m) (hl' : ys.length = k) (hx : AllB xs) (hy : AllB ys) (hm : m ≤ 1000) (hk : k ≤ 1000)
    (he : es = #[.slice (some ⟨w.heap.size, 0, none⟩) m m, .slice (some ⟨w.heap.size + 1, 0, none⟩) k k]) {w2 : World} (hw : ((w.alloc (.cells cs t fr)).alloc (.cells ds t fr')).alloc (.cells es u) = w2) :
    (∃ rs, RowsAt w2 w2.heap.size (some ⟨w.heap.size + 1 + 1, 0, none⟩) 2 rs ∧ rowsXs rs = [xs, ys]) ∧ Keep w w2 := by
  subst hw
  have b1 := (Bytes.wri (w := w) rfl t fr m xs cs hc hl hx).up ((Keep.refl _).ob (.cells ds t fr'))
  have b2 := Bytes.wri (w := w.alloc (.cells cs t fr)) (size_ob _ _) t fr' k ys ds hd hl' hy
  refine ⟨⟨[⟨some ⟨w.heap.size, 0, none⟩, m, m, xs⟩, ⟨some ⟨w.heap.size + 1, 0, none⟩, k, k, ys⟩], ?_, rfl⟩, (((Keep.refl w).ob _).ob _).ob _⟩
  refine RowsAt.wri (by rw [size_ob, size_ob]) u 2 [⟨some ⟨w.heap.size, 0, none⟩, m, m, xs⟩, ⟨some ⟨w.heap.size + 1, 0, none⟩, k, k, ys⟩] es (by rw [he]; rfl) rfl (fun r hr => ?_)
  simp only [List.mem_cons, List.not_mem_nil, or_false] at hr
  rcases hr with rfl | rfl
  · exact ⟨b1, by show m ≤ _; omega, Nat.le_refl _⟩
  · exact ⟨b2, by show k ≤ _; omega, Nat.le_refl _⟩
theorem one_wri (w : World) (t u : TypeId) (fr : Nat × Nat) (m : Nat) (xs : List Nat) (cs es : Array Value) (hc : cs = (u8s xs).toArray) (hl : xs.length = m) (hx : AllB xs) (hm : m ≤ 1000)
    (he : es = #[.slice (some ⟨w.heap.size, 0, none⟩) m m]) {w2 : World} (hw : (w.alloc (.cells cs t fr)).alloc (.cells es u) = w2) :
    (∃ rs, RowsAt w2 w2.heap.size (some ⟨w.heap.size + 1, 0, none⟩) 1 rs ∧ rowsXs rs = [xs]) ∧ Keep w w2 := by
  subst hw
  have b1 := Bytes.wri (w := w) rfl t fr m xs cs hc hl hx
  refine ⟨⟨[⟨some ⟨w.heap.size, 0, none⟩, m, m, xs⟩], ?_, rfl⟩, ((Keep.refl w).ob _).ob _⟩
  refine RowsAt.wri (size_ob _ _) u 1 [⟨some ⟨w.heap.size, 0, none⟩, m, m, xs⟩] es (by rw [he]; rfl) rfl (fun r hr => ?_)
  simp only [List.mem_cons, List.not_mem_nil, or_false] at hr
  subst hr
  exact ⟨b1, by show m ≤ _; omega, Nat.le_refl _⟩
/-- Four rows written out. -/
theorem four_wri (w : World) (t u : TypeId) (f1 f2 f3 f4 : Nat × Nat) (n1 n2 n3 n4 : Nat) (x1 x2 x3 x4 : List Nat) (c1 c2 c3 c4 es : Array Value) (e1 : c1 = (u8s x1).toArray) (e2 : c2 = (u8s x2).toArray) (e3 : c3 = (u8s x3).toArray) (e4 : c4 = (u8s x4).toArray)
    (l1 : x1.length = n1) (l2 : x2.length = n2) (l3 : x3.length = n3) (l4 : x4.length = n4) (a1 : AllB x1) (a2 : AllB x2) (a3 : AllB x3) (a4 : AllB x4) (hm : n1 ≤ 1000 ∧ n2 ≤ 1000 ∧ n3 ≤ 1000 ∧ n4 ≤ 1000)
    (he : es = #[.slice (some ⟨w.heap.size, 0, none⟩) n1 n1, .slice (some ⟨w.heap.size + 1, 0, none⟩) n2 n2, .slice (some ⟨w.heap.size + 1 + 1, 0, none⟩) n3 n3, .slice (some ⟨w.heap.size + 1 + 1 + 1, 0, none⟩) n4 n4]) {w2 : World}
    (hw : ((((w.alloc (.cells c1 t f1)).alloc (.cells c2 t f2)).alloc (.cells c3 t f3)).alloc (.cells c4 t f4)).alloc (.cells es u) = w2) :
    (∃ rs, RowsAt w2 w2.heap.size (some ⟨w.heap.size + 1 + 1 + 1 + 1, 0, none⟩) 4 rs ∧ rowsXs rs = [x1, x2, x3, x4]) ∧ Keep w w2 := by
  subst hw
  have b1 := (Bytes.wri (w := w) rfl t f1 n1 x1 c1 e1 l1 a1).up ((((Keep.refl _).ob (.cells c2 t f2)).ob (.cells c3 t f3)).ob (.cells c4 t f4))
  have b2 := (Bytes.wri (w := w.alloc (.cells c1 t f1)) (size_ob _ _) t f2 n2 x2 c2 e2 l2 a2).up (((Keep.refl _).ob (.cells c3 t f3)).ob (.cells c4 t f4))
  have b3 := (Bytes.wri (w := (w.alloc (.cells c1 t f1)).alloc (.cells c2 t f2)) (h := w.heap.size + 1 + 1) (by rw [size_ob, size_ob]) t f3 n3 x3 c3 e3 l3 a3).up ((Keep.refl _).ob (.cells c4 t f4))
  have b4 := Bytes.wri (w := ((w.alloc (.cells c1 t f1)).alloc (.cells c2 t f2)).alloc (.cells c3 t f3)) (h := w.heap.size + 1 + 1 + 1) (by rw [size_ob, size_ob, size_ob]) t f4 n4 x4 c4 e4 l4 a4
  refine ⟨⟨[⟨some ⟨w.heap.size, 0, none⟩, n1, n1, x1⟩, ⟨some ⟨w.heap.size + 1, 0, none⟩, n2, n2, x2⟩, ⟨some ⟨w.heap.size + 1 + 1, 0, none⟩, n3, n3, x3⟩, ⟨some ⟨w.heap.size + 1 + 1 + 1, 0, none⟩, n4, n4, x4⟩], ?_, rfl⟩, (((((Keep.refl w).ob _).ob _).ob _).ob _).ob _⟩
  refine RowsAt.wri (by rw [size_ob, size_ob, size_ob, size_ob]) u 4 [⟨some ⟨w.heap.size, 0, none⟩, n1, n1, x1⟩, ⟨some ⟨w.heap.size + 1, 0, none⟩, n2, n2, x2⟩, ⟨some ⟨w.heap.size + 1 + 1, 0, none⟩, n3, n3, x3⟩, ⟨some ⟨w.heap.size + 1 + 1 + 1, 0, none⟩, n4, n4, x4⟩] es (by rw [he]; rfl) rfl (fun r hr => ?_)
  obtain ⟨m1, m2, m3, m4⟩ := hm
  simp only [List.mem_cons, List.not_mem_nil, or_false] at hr
  rcases hr with rfl | rfl | rfl | rfl
  · exact ⟨b1, by show n1 ≤ _; omega, Nat.le_refl _⟩
  · exact ⟨b2, by show n2 ≤ _; omega, Nat.le_refl _⟩
  · exact ⟨b3, by show n3 ≤ _; omega, Nat.le_refl _⟩
  · exact ⟨b4, by show n4 ≤ _; omega, Nat.le_refl _⟩
/-- Same, rows that are read. -/
theorem rsame_at (n m ca cb : Nat) (A A' : Option Addr) (rs rs' : List RowV) (w : World) (h : RowsAt w w.heap.size A n rs) (h' : RowsAt w w.heap.size A' m rs') (hn : n ≤ 140737488355328) :
    Calls Try.prog 22 #[.slice A n ca, .slice A' m cb] w fun e w' => e = .returned (.bool (decide (rowsXs rs = rowsXs rs'))) ∧ Keep w w' :=
  (rsame_any n m ca cb A A' _ _ rs rs' w h.rowsIn h'.rowsIn (fun _ e => e) (fun _ e => e) hn).mono fun e w' he => by
    obtain ⟨h1, k, rfl⟩ := he
    exact ⟨h1, (Keep.refl w).drewN k⟩
theorem Laying.rowsIn {W w : World} {A : Option Addr} {n c : Nat} {rs : List RowV} (h : Laying W w A n c rs) : RowsIn w (fun b => W.heap.size ≤ b ∧ b < w.heap.size) A n rs :=
  RowsIn.of_own h.1 (fun r hr => (h.2.1 r hr).mono fun b hb => ⟨hb.1, hb.2.1⟩) (fun b hb => h.1.lt b hb)
theorem k_lay : layR 2 3 [97] = [[0, 0, 0], [1, 97, 0]] ∧ layE 2 3 [97] = 0 := by decide +kernel
theorem k_take : tkV 2 3 [[0, 0, 0], [1, 97, 0]] = [97] ∧ tkE 2 3 [[0, 0, 0], [1, 97, 0]] = 0 := by decide +kernel
theorem k_take3 : tkV 2 3 [[0, 0, 0], [3, 97, 98]] = [] ∧ tkE 2 3 [[0, 0, 0], [3, 97, 98]] = 5 := by decide +kernel
theorem k_chunks : (chunkN 2 [3, 3] [97, 98, 99, 100, 101, 102, 103] 8).1 = [[97, 98], [99], [100, 101], [102, 103]] ∧ (chunkN 2 [3, 3] [97, 98, 99, 100, 101, 102, 103] 8).2 = 7 := by decide +kernel
end Go.Proofs.Ytcafofffgmaepaa
