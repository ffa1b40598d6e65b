/- Contracts for matrices of known sizes; matrices and rows side by side; matrices laid row by row; parts of matrices. -/
import Derived.Test.YtgelalbmhllccaaGreatQae
import Derived.Laws.CopyOwn
import Derived.Test.YtgelalbmhllccaaGreatQab
import Derived.Test.YtgelalbmhllccaaGreatQac
import Derived.Test.YtgelalbmhllccaaGreatQad
namespace Go.Proofs.YtgelalbmhllccaaGreat
open Go.RowKit
set_option linter.unusedVariables false
set_option linter.unusedSimpArgs false
section
variable {w : World} {A A' : Option Addr} {n n' c c' r k m : Nat} {M N : List (List Nat)}
theorem Mat.cnt (h : Mat w ⟨A, n, c, M⟩) (s : Sz r k M) : n = r := h.len.symm.trans s.1
end
/-- Matrices, rows, and what was there has not turned. -/
structure Sr (W w : World) (l : List MV) (rs : List RowV) : Prop where
  st : St W w l
  rows : ∀ r ∈ rs, Bytes w w.heap.size r.A r.n r.xs
namespace Sr
variable {W w w' : World} {l : List MV} {rs : List RowV}
theorem start (W : World) : Sr W W [] [] := ⟨St.start W, fun x hx => by simp at hx⟩
theorem byte_later {r : RowV} (h : Bytes w w.heap.size r.A r.n r.xs) (k : Keep w w') : Bytes w' w'.heap.size r.A r.n r.xs := (h.keep (Nat.le_refl _) k).mono k.size
theorem later (h : Sr W w l rs) (k : Keep w w') : Sr W w' l rs := ⟨h.st.later k, fun r hr => byte_later (h.rows r hr) k⟩
theorem more {x : MV} (h : Sr W w l rs) (m : Mat w' x) (k : Keep w w') : Sr W w' (l ++ [x]) rs := ⟨h.st.more m k, fun r hr => byte_later (h.rows r hr) k⟩
theorem get {x : MV} (h : Sr W w l rs) (i : Nat) (hx : l[i]? = some x) : Mat w x := h.st.get i hx
theorem row {r : RowV} (h : Sr W w l rs) (i : Nat) (hx : rs[i]? = some r) : Bytes w w.heap.size r.A r.n r.xs := h.rows r (List.mem_of_getElem? hx)
theorem keep (h : Sr W w l rs) : Keep W w := h.st.keep
end Sr
theorem Mat.rowsAt {w : World} {A : Option Addr} {n c r k : Nat} {M : List (List Nat)} (h : Mat w ⟨A, n, c, M⟩) (s : Sz r k M) (hk : k ≤ 1000) : ∃ rs, RowsIn w (· < w.heap.size) A n rs ∧ rowsXs rs = M ∧ (∀ y ∈ rs, y.n = k) := by
  obtain ⟨rs, h1, h2, h3⟩ := h
  refine ⟨rs, h1, h2, fun y hy => ?_⟩
  rw [← (h1.2.1 y hy).1]
  have hm : y.xs ∈ rowsXs rs := List.mem_map.2 ⟨y, hy, rfl⟩
  rw [h2] at hm
  exact (s.2 y.xs hm).1
/-- A row made and filled. -/
def fillN (xs : List Nat) (n : Nat) : List Nat := xs.take n ++ List.replicate (n - xs.length) 0
theorem fillN_len (xs : List Nat) (n : Nat) : (fillN xs n).length = n := by simp [fillN]; omega
theorem fillN_all {xs : List Nat} (h : AllB xs) (n : Nat) : AllB (fillN xs n) := (h.take n).append (AllB.zeros _)
theorem run_copy_fill {P : Program} {w : World} {B m n c ty t e : Nat} {A : Option Addr} {xs : List Nat} (ht : P.underlying t = some (.slice e)) (hs : (P.info? e).map (·.size) = some 1) (h : Bytes w B A m xs) (hB : B ≤ w.heap.size) (hn : n ≤ 140737488355328) :
    ∃ w' v, (Builtin.copy_ #[t, t] ty #[.slice (some ⟨w.heap.size, 0, none⟩) n n, .slice A m c]).run P (w.alloc (.cells (madeCells #[.int .u8 0] n) e)) = .ok v w' ∧ Own w' w.heap.size e (some ⟨w.heap.size, 0, none⟩) n n (fillN xs n) ∧ Keep w w' := by
  have ha := heap_alloc_new w (.cells (madeCells #[.int .u8 0] n) e)
  have hz : (madeCells #[Value.int .u8 0] n).toList = u8s (List.replicate n 0) := by rw [toList_madeCells_one, u8s_zeros]
  by_cases h0 : min m n = 0
  · have hf : fillN xs n = List.replicate n 0 := by
      have := h.length
      rcases (show m = 0 ∨ n = 0 by omega) with e | e
      · rw [fillN, List.eq_nil_of_length_eq_zero (this.trans e)]; simp
      · rw [fillN, e]; simp
    exact ⟨_, _, run_copy_none _ t t ty e _ A n n m c ht hs h0, hf ▸ Own.made w e n hn, (Keep.refl w).alloc _ _⟩
  · obtain ⟨b, off, rfl, _, _⟩ := h.2.2 (by omega)
    have hl : (u8s (xs.take n)).length = min m n := by rw [u8s_length, List.length_take, h.length]; omega
    have hr := run_copy_row (P := P) (w.alloc (.cells (madeCells #[.int .u8 0] n) e)) t t ty e w.heap.size 0 n n ⟨b, off, none⟩ m c (madeCells #[.int .u8 0] n) e (u8s (xs.take n)) ht hs ha hl (fun j v hv => (h.alloc hB _).cells (by omega) j v (by
      rw [u8s_get] at hv ⊢
      rw [List.getElem?_take] at hv
      split at hv
      · exact hv
      · cases hv)) (by rw [size_madeCells, hl]; simp; omega) (u8s_one _)
    refine ⟨_, _, hr, ?_, ((Keep.refl w).alloc _ _).setRow (Nat.le_refl _) ha⟩
    have hc : ((madeCells #[Value.int .u8 0] n).toList.take 0 ++ u8s (xs.take n) ++ (madeCells #[Value.int .u8 0] n).toList.drop (0 + (u8s (xs.take n)).length)) = u8s (fillN xs n) := by
      rw [List.take_zero, List.nil_append, hz, fillN, u8s_append, hl]
      congr 1
      simp only [u8s, List.map_replicate, List.drop_replicate]
      congr 1
      have := h.length
      omega
    refine ⟨⟨by rw [u8s_length, fillN_len]; simp, Or.inr ⟨w.heap.size, n, _, rfl, Nat.le_refl _, by rw [setRow_heap _ _ _ _ _ _ ha, hc], Nat.le_refl _, by unfold maxLen; omega, by simp [u8s_length, fillN_len], ?_⟩⟩, fillN_all h.all n⟩
    rw [List.toList_toArray, List.take_of_length_le (by rw [u8s_length, fillN_len]; simp)]
/-- A list of rows that is being laid: its own block new, its rows anywhere else. -/
def Lay (W w : World) (A : Option Addr) (n c : Nat) (rs : List RowV) : Prop :=
  OwnRows w W.heap.size 43 A n c rs ∧ (∀ r ∈ rs, LiesIn w (fun b => b < w.heap.size ∧ ¬ (Value.slice A n c).ownBlock = some b) r) ∧ Keep W w
namespace Lay
variable {W w w' : World} {A A2 : Option Addr} {n c m c2 : Nat} {rs news : List RowV}
theorem nothing (W : World) : Lay W W none 0 0 [] := ⟨OwnRows.none_ _ _ _, fun r hr => by simp at hr, Keep.refl W⟩
theorem keep (h : Lay W w A n c rs) : Keep W w := h.2.2
theorem later (h : Lay W w A n c rs) (k : Keep w w') : Lay W w' A n c rs :=
  ⟨h.1.keep k, fun r hr => ((h.2.1 r hr).turned (Turned.of_keep (F := fun _ => False) k) fun _ _ e => e).mono fun b hb => ⟨Nat.lt_of_lt_of_le hb.1 k.size, hb.2⟩, h.2.2.trans k⟩
/-- Rows that were there before lie apart. -/
theorem old (h : Lay W w A n c rs) {r : RowV} (hr : LiesIn W (fun b => b < W.heap.size) r) : LiesIn w (fun b => b < w.heap.size ∧ ¬ (Value.slice A n c).ownBlock = some b) r :=
  (hr.turned (Turned.of_keep (F := fun _ => False) h.2.2) fun _ _ e => e).mono fun b hb => ⟨Nat.lt_of_lt_of_le hb h.2.2.size, fun e => by have := h.1.rowLe b e; omega⟩
/-- Rows of one's own lie apart. -/
theorem own (h : Lay W w A n c rs) {B nr cr : Nat} {Ar : Option Addr} {xs : List Nat} (o : Own w B 5 Ar nr cr xs) : LiesIn w (fun b => b < w.heap.size ∧ ¬ (Value.slice A n c).ownBlock = some b) ⟨Ar, nr, cr, xs⟩ :=
  o.lies.mono fun b hb => ⟨(o.1.lt b hb).2, fun e => by
    rcases blocks_apart o h.1 (by decide) with z | z
    · rw [z] at hb; cases hb
    · exact z (hb.trans e.symm)⟩
end Lay
namespace Lay
variable {W w w' : World} {A : Option Addr} {n c g i : Nat} {rs : List RowV}
theorem stored (h : Lay W w (some ⟨g, 0, none⟩) n c rs) (r : RowV) (hr : LiesIn w (fun b => b < w.heap.size ∧ ¬ (Value.slice (some ⟨g, 0, none⟩) n c).ownBlock = some b) r) (i : Nat) : Lay W (w.setCell ⟨g, i, none⟩ (.slice r.A r.n r.c)) (some ⟨g, 0, none⟩) n c (rs.set i r) := by
  have kT : Turned (fun b => b = g) w (w.setCell ⟨g, i, none⟩ (.slice r.A r.n r.c)) := Turned.set (F := fun b => b = g) _ _ _ rfl
  have key : ∀ y, LiesIn w (fun b => b < w.heap.size ∧ ¬ (Value.slice (some ⟨g, 0, none⟩) n c).ownBlock = some b) y → LiesIn (w.setCell ⟨g, i, none⟩ (.slice r.A r.n r.c)) (fun b => b < (w.setCell ⟨g, i, none⟩ (.slice r.A r.n r.c)).heap.size ∧ ¬ (Value.slice (some ⟨g, 0, none⟩) n c).ownBlock = some b) y := fun y hy =>
    (hy.turned kT fun b hb e => hb.2 (by rw [e]; rfl)).mono fun b hb => ⟨Nat.lt_of_lt_of_le hb.1 kT.size, hb.2⟩
  refine ⟨h.1.stored r, fun y hy => ?_, h.2.2.setCell (h.1.rowLe g rfl) _⟩
  rcases List.mem_or_eq_of_mem_set hy with hy | rfl
  · exact key y (h.2.1 y hy)
  · exact key _ hr
end Lay
theorem Mat.take {w : World} {A : Option Addr} {n c k : Nat} {M : List (List Nat)} (h : Mat w ⟨A, n, c, M⟩) (hk : k ≤ n) : Mat w ⟨A, k, c, M.take k⟩ := by
  obtain ⟨rs, e1, rfl, e3⟩ := h
  refine ⟨rs.take k, ⟨by rw [List.length_take, e1.1]; exact Nat.min_eq_left hk, fun r hr => e1.2.1 r (List.mem_of_mem_take hr), fun hp => ?_⟩, by simp [rowsXs, List.map_take], Nat.le_trans hk e3⟩
  have hp2 : 0 < k := hp
  obtain ⟨b, off, e, hb, hc⟩ := e1.2.2 (by show 0 < n; omega)
  refine ⟨b, off, e, hb, fun i r hi => hc i r ?_⟩
  rw [List.getElem?_take] at hi
  split at hi
  · exact hi
  · cases hi
theorem Mat.drop {w : World} {A : Option Addr} {n c k : Nat} {M : List (List Nat)} (h : Mat w ⟨A, n, c, M⟩) : Mat w ⟨dropA A c k, n - k, c - k, M.drop k⟩ := by
  obtain ⟨rs, e1, rfl, e3⟩ := h
  have e3 : n ≤ c := e3
  exact ⟨rs.drop k, e1.drop e3, by simp [rowsXs, List.map_drop], by show n - k ≤ c - k; omega⟩
end Go.Proofs.YtgelalbmhllccaaGreat
/- Copies into rows made on the spot: stage 8's texts hold them (filled under the name of stage 7's text, which names them a second time). -/
/- The landed code of layer 7: what a basis is in memory; small functions; comparing. -/
namespace Go.Proofs.YtgelalbmhllccaaGreat
open Go.RowKit
set_option linter.unusedVariables false
set_option linter.unusedSimpArgs false
/-- A basis at block b: of g and s, its rows; what it holds lies in blocks of F. -/
def BasR (w : World) (F : Nat → Prop) (b g s : Nat) (B : List (List Nat)) : Prop :=
  (Bas g s B ∧ 1 ≤ g ∧ g ≤ 255 ∧ 1 ≤ s ∧ s ≤ 65535 ∧ ∀ k, F k → k < w.heap.size) ∧ F b ∧
    ∃ A n c ps, w.heap[b]? = some (.cells #[.int .i64 (g : Int), .int .i64 (s : Int), .slice A n c] 139 (0, 0)) ∧ StIn w F A n ps ∧ (∀ p ∈ ps, p.a.n = g ∧ p.b.n = s) ∧ ps.map PairV.xs = B
/-- What is read of it. -/
structure BasA (w : World) (F : Nat → Prop) (b g s : Nat) (B : List (List Nat)) (A : Option Addr) (n c : Nat) (ps : List PairV) : Prop where
  bas : Bas g s B
  g1 : 1 ≤ g
  g2 : g ≤ 255
  s1 : 1 ≤ s
  s2 : s ≤ 65535
  lt : ∀ k, F k → k < w.heap.size
  at_ : F b
  block : w.heap[b]? = some (.cells #[.int .i64 (g : Int), .int .i64 (s : Int), .slice A n c] 139 (0, 0))
  st : StIn w F A n ps
  size : ∀ p ∈ ps, p.a.n = g ∧ p.b.n = s
  xs : ps.map PairV.xs = B
section
variable {w w' : World} {F G : Nat → Prop} {b g s n c : Nat} {B : List (List Nat)} {A : Option Addr} {ps : List PairV}
theorem BasA.r (h : BasA w F b g s B A n c ps) : BasR w F b g s B := ⟨⟨h.bas, h.g1, h.g2, h.s1, h.s2, h.lt⟩, h.at_, A, n, c, ps, h.block, h.st, h.size, h.xs⟩
theorem BasR.open_ (h : BasR w F b g s B) : ∃ A n c ps, BasA w F b g s B A n c ps := by
  obtain ⟨⟨a1, a2, a3, a4, a5, a6⟩, a7, A, n, c, ps, a8, a9, a10, a11⟩ := h
  exact ⟨A, n, c, ps, a1, a2, a3, a4, a5, a6, a7, a8, a9, a10, a11⟩
theorem BasA.len (h : BasA w F b g s B A n c ps) : B.length = n := by rw [← h.xs, List.length_map, h.st.1]
theorem BasA.n_le (h : BasA w F b g s B A n c ps) : n ≤ g := by have := h.bas.length_le; rw [h.len] at this; exact this
theorem BasA.c0 (h : BasA w F b g s B A n c ps) : w.cell? ⟨b, 0, none⟩ = some (.int .i64 (g : Int)) := cell_of_row _ _ _ _ _ _ h.block
theorem BasA.c1 (h : BasA w F b g s B A n c ps) : w.cell? ⟨b, 1, none⟩ = some (.int .i64 (s : Int)) := cell_of_row _ _ _ _ _ _ h.block
theorem BasA.c2 (h : BasA w F b g s B A n c ps) : w.cell? ⟨b, 2, none⟩ = some (.slice A n c) := cell_of_row _ _ _ _ _ _ h.block
theorem BasA.turned (h : BasA w F b g s B A n c ps) (k : Turned G w w') (hd : ∀ b, F b → ¬ G b) : BasA w' F b g s B A n c ps :=
  ⟨h.bas, h.g1, h.g2, h.s1, h.s2, fun x hx => Nat.lt_of_lt_of_le (h.lt x hx) k.size, h.at_, (k.block b (h.lt b h.at_) (hd b h.at_)).trans h.block, h.st.turned k hd, h.size, h.xs⟩
theorem BasA.keep (h : BasA w F b g s B A n c ps) (k : Keep w w') : BasA w' F b g s B A n c ps := h.turned (Turned.of_keep (F := fun _ => False) k) fun _ _ e => e
theorem BasR.fine (h : BasR w F b g s B) : Bas g s B ∧ 1 ≤ g ∧ g ≤ 255 ∧ 1 ≤ s ∧ s ≤ 65535 ∧ ∀ k, F k → k < w.heap.size := h.1
theorem BasR.turned (h : BasR w F b g s B) (k : Turned G w w') (hd : ∀ b, F b → ¬ G b) : BasR w' F b g s B := by
  obtain ⟨A, n, c, ps, h⟩ := h.open_
  exact (h.turned k hd).r
theorem BasR.keep (h : BasR w F b g s B) (k : Keep w w') : BasR w' F b g s B := h.turned (Turned.of_keep (F := fun _ => False) k) fun _ _ e => e
end
set_option maxRecDepth 100000 in
theorem bnew_in (g s : Nat) (h1 : 1 ≤ g) (h2 : g ≤ 255) (h3 : 1 ≤ s) (h4 : s ≤ 65535) (w : World) :
    Calls Tryz.prog 34 #[.int .i64 (g : Int), .int .i64 (s : Int)] w fun e w' => ∃ b F, e = .returned (.tuple #[.pointer (some ⟨b, 0, none⟩), .int .i64 0]) ∧ BasR w' F b g s [] ∧ (∀ k, F k → w.heap.size ≤ k) ∧ Keep w w' := by
  have b1 : decide ((g : Int) < 1) = false := decide_eq_false (by omega)
  have b2 : decide ((255 : Int) < (g : Int)) = false := decide_eq_false (by omega)
  have b3 : decide ((s : Int) < 1) = false := decide_eq_false (by omega)
  have b4 : decide ((65535 : Int) < (s : Int)) = false := decide_eq_false (by omega)
  have H := Lib.hid (And.intro h1 (And.intro h2 (And.intro h3 h4)))
  clear h1 h2 h3 h4
  go_enter Tryz.func34, Tryz.ntmps34
  go_wp2_with fail
  go_ret2
  have hk : Keep w (w.alloc (.cells #[.int .i64 (g : Int), .int .i64 (s : Int), .slice none 0 0] 139)) := (Keep.refl w).alloc _ _
  refine ⟨w.heap.size, fun k => k = w.heap.size, rfl, ⟨⟨Bas.nil g s, H.out.1, H.out.2.1, H.out.2.2.1, H.out.2.2.2, fun k hk => ?_⟩, rfl, none, 0, 0, [], heap_alloc_new w _, StIn.nothing _ _ _, fun p hp => by simp at hp, rfl⟩, fun k e => by rw [e]; exact Nat.le_refl _, hk⟩
  subst hk
  simp
set_option maxRecDepth 100000 in
theorem bmade_eq (b g : Nat) (w : World) (c0 : w.cell? ⟨b, 0, none⟩ = some (.int .i64 (g : Int))) (hg : 1 ≤ g) : Calls Tryz.prog 73 #[.pointer (some ⟨b, 0, none⟩)] w fun e w' => e = .returned (.bool true) ∧ w = w' := by
  have b1 : decide ((0 : Int) < (g : Int)) = true := decide_eq_true (by omega)
  have b2 : decide (0 < g) = true := decide_eq_true (by omega)
  clear hg
  go_enter Tryz.func73, Tryz.ntmps73
  go_wp2_with fail
  go_ret
  exact ⟨rfl, rfl⟩
section
variable {w : World} {F : Nat → Prop} {b g s : Nat} {B : List (List Nat)}
set_option maxRecDepth 100000 in
theorem brank_eq (h : BasR w F b g s B) : Calls Tryz.prog 68 #[.pointer (some ⟨b, 0, none⟩)] w fun e w' => e = .returned (.int .i64 (B.length : Int)) ∧ w = w' := by
  obtain ⟨A, n, c, ps, h⟩ := h.open_
  have c2 := h.c2
  have H := Lib.hid h
  rw [h.len]
  clear h
  go_enter Tryz.func68, Tryz.ntmps68
  go_wp2_with fail
  refine (bmade_eq b g _ H.out.c0 H.out.g1).mono ?_
  rintro e w' ⟨rfl, rfl⟩
  go_wp2_with fail
  go_ret
  exact ⟨rfl, rfl⟩
end
set_option maxRecDepth 100000 in
theorem bcoefs_any (p : PairV) (w : World) : Calls Tryz.prog 75 #[p.agg] w fun e w' => e = .returned (.slice p.a.A p.a.n p.a.c) ∧ Keep w w' := by
  obtain ⟨⟨A1, n1, c1, x1⟩, ⟨A2, n2, c2, x2⟩⟩ := p
  show Calls _ _ #[.agg #[.slice A1 n1 c1, .slice A2 n2 c2]] _ _
  go_enter Tryz.func75, Tryz.ntmps75
  go_wp2_with fail
  go_ret
  exact ⟨rfl, (Keep.refl w).alloc _ _⟩
set_option maxRecDepth 100000 in
theorem bpayload_any (p : PairV) (w : World) : Calls Tryz.prog 80 #[p.agg] w fun e w' => e = .returned (.slice p.b.A p.b.n p.b.c) ∧ Keep w w' := by
  obtain ⟨⟨A1, n1, c1, x1⟩, ⟨A2, n2, c2, x2⟩⟩ := p
  show Calls _ _ #[.agg #[.slice A1 n1 c1, .slice A2 n2 c2]] _ _
  go_enter Tryz.func80, Tryz.ntmps80
  go_wp2_with fail
  go_ret
  exact ⟨rfl, (Keep.refl w).alloc _ _⟩
end Go.Proofs.YtgelalbmhllccaaGreat
/- The landed code of layer 7: two lists of rows compared. -/
namespace Go.Proofs.YtgelalbmhllccaaGreat
open Go.RowKit
set_option linter.unusedVariables false
set_option linter.unusedSimpArgs false
theorem StIn.lies {w : World} {F : Nat → Prop} {A : Option Addr} {n : Nat} {ps : List PairV} (h : StIn w F A n ps) (hF : ∀ b, F b → b < w.heap.size) {k : Nat} {p : PairV} (hp : ps[k]? = some p) : Bytes w w.heap.size p.a.A p.a.n p.a.xs ∧ Bytes w w.heap.size p.b.A p.b.n p.b.xs := by
  have := h.2.1 p (List.mem_of_getElem? hp)
  exact ⟨this.1.bytes hF, this.2.bytes hF⟩
end Go.Proofs.YtgelalbmhllccaaGreat
/- Rows that are combinations of symbols, coefficients and payload alike: what a basis makes of them. -/
namespace Go.Proofs.YtgelalbmhllccaaGreat
open Lin
/-- What coefficients make of the symbols. -/
def payV (g s : Nat) (M : List (List Nat)) (c : List Nat) : List Nat := vComb s M c g
/-- A row that goes with the symbols. -/
def rowV (g s : Nat) (M : List (List Nat)) (c : List Nat) : List Nat := c ++ payV g s M c
/-- The symbols, each behind its unit. -/
def symR (g : Nat) (M : List (List Nat)) : Nat → Nat → By := fun i => pairV g (unitM i) (fn M i)
theorem vec_pair {a b : List Nat} {n : Nat} (h : a.length = n) : vec (a ++ b) = pairV n (vec a) (vec b) := by
  funext j
  rcases Nat.lt_or_ge j n with hj | hj
  · rw [pair_left hj]
    show byte ((a ++ b).getD j 0) = byte (a.getD j 0)
    rw [List.getD_eq_getElem?_getD, List.getElem?_append_left (by omega), ← List.getD_eq_getElem?_getD]
  · obtain ⟨i, rfl⟩ : ∃ i, j = n + i := ⟨j - n, by omega⟩
    rw [pair_right]
    show byte ((a ++ b).getD (n + i) 0) = byte (b.getD i 0)
    rw [List.getD_eq_getElem?_getD, List.getElem?_append_right (by omega), h, Nat.add_sub_cancel_left, ← List.getD_eq_getElem?_getD]
section
variable {g s : Nat} {M : List (List Nat)} {c : List Nat}
theorem payV_eq (h : Sz g s M) (hc : AllB c) : payV g s M c = rowN c M g s := tab_congr fun k _ => sumX_congr fun i hi => mul_comm' _ _ ((h.at_ hi).2.getD k) (hc.getD i)
theorem payV_len : (payV g s M c).length = s := tab_length _ _
theorem rowV_ok (h : Sz g s M) (hl : c.length = g) (hc : AllB c) : (rowV g s M c).length = g + s ∧ AllB (rowV g s M c) :=
  ⟨by rw [rowV, List.length_append, hl, payV_len], hc.append (by rw [payV_eq h hc]; exact rowN_all hc)⟩
theorem vec_rowV (h : Sz g s M) (hl : c.length = g) (hc : AllB c) : vec (rowV g s M c) = comb g (symR g M) (vec c) := by
  rw [rowV, vec_pair hl, payV_eq h hc, vec_rowN hc h]
  show _ = comb g (fun i => pairV g (unitM i) (fn M i)) (vec c)
  rw [comb_pair, mul_unit laws (vec_wide hl)]
/-- What goes with the symbols and has no coefficients is nothing. -/
theorem symR_zero {x : Nat → By} (h : InSpan g (symR g M) x) (hz : ∀ j, j < g → x j = 0) : x = fun _ => 0 := by
  obtain ⟨c, rfl⟩ := h
  have hc : ∀ i, i < g → c i = 0 := fun i hi => by
    have h1 := hz i hi
    have e : comb g (symR g M) c i = c i := by
      show sm g (fun k => c k * symR g M k i) = c i
      rw [sm_one laws hi (fun k hk hne => by
        rw [show symR g M k i = unitM k i from pair_left hi, unitM, if_neg (fun e => hne e.symm), laws.mul_zero]), show symR g M i i = unitM i i from pair_left hi, unitM, if_pos rfl, laws.mul_one]
    rw [e] at h1; exact h1
  exact funext fun j => sm_zero laws g fun i hi => by rw [hc i hi, laws.zero_mul]
/-- A row of bytes that goes with the symbols is told by its coefficients. -/
theorem symR_row (h : Sz g s M) {r : List Nat} (hl : r.length = g + s) (ha : AllB r) (hr : InSpan g (symR g M) (vec r)) : r = rowV g s M (r.take g) := by
  have ht : (r.take g).length = g := by rw [List.length_take]; omega
  have hta : AllB (r.take g) := ha.take g
  have ok := rowV_ok h ht hta
  refine vec_inj (hl.trans ok.1.symm) ha ok.2 ?_
  have hx : InSpan g (symR g M) fun j => vec r j + vec (rowV g s M (r.take g)) j := InSpan.add laws hr ⟨_, vec_rowV h ht hta⟩
  have h0 := symR_zero hx fun j hj => by
    have e : vec (rowV g s M (r.take g)) j = vec r j := by
      rw [rowV, vec_pair ht, pair_left hj]
      show byte ((r.take g).getD j 0) = byte (r.getD j 0)
      rw [List.getD_eq_getElem?_getD, List.getElem?_take, if_pos hj, ← List.getD_eq_getElem?_getD]
    rw [e, laws.add_self]
  funext j
  exact laws.eq_of_add (congrFun h0 j)
/-- Of such rows, all that is put in is put in as into a matrix. -/
theorem insB_sym {B : List (List Nat)} {row : List Nat} (hB : Bas g s B) (hw : Within B.length (fn B) g (symR g M)) (hl : row.length = g + s) (ha : AllB row) (hr : InSpan g (symR g M) (vec row)) :
    insB g s B row = insertN (g + s) B row ∧ Within (insB g s B row).length (fn (insB g s B row)) g (symR g M) ∧ SameSpan (insB g s B row) (B ++ [row]) := by
  have e : insB g s B row = insertN (g + s) B row := by
    by_cases hin : inB g s B row
    · rw [insB_in hin]
      obtain ⟨l, hrd, hlt⟩ := hB.leads
      have hv := left_vec hB.ok hrd hl ha
      have hs : InSpan g (symR g M) (vec (leftB (g + s) B row)) := by
        rw [hv]; exact InSpan.add laws hr (InSpan.trans laws ⟨_, rfl⟩ hw)
      have h0 := symR_zero hs fun j hj => (vec_zero_iff (left_all hB.ok ha) j).2 (vLead_none hin j hj)
      have hneg : vLead (g + s) (leftB (g + s) B row) < 0 := vLead_neg fun i _ => (vec_zero_iff (left_all hB.ok ha) i).1 (by rw [h0])
      have : insertN (g + s) B row = B := by rw [insertN]; exact if_pos hneg
      exact this.symm
    · exact insB_new hin
  obtain ⟨_, hS⟩ := insertN_red hB.red hl ha
  rw [e]
  refine ⟨rfl, hS.1.trans laws ?_, hS⟩
  intro i hi
  rw [List.length_append, List.length_singleton] at hi
  rw [fn_append_row B row i hi]
  by_cases e2 : i < B.length
  · rw [insM_lt e2]; exact hw i e2
  · obtain rfl : i = B.length := by omega
    rw [insM_at]; exact hr
/-- Each row of such a basis goes with the symbols. -/
theorem bas_rows {B : List (List Nat)} (h : Sz g s M) (hB : Bas g s B) (hw : Within B.length (fn B) g (symR g M)) : ∀ r ∈ B, r = rowV g s M (r.take g) := fun r hr => by
  have := hB.ok r hr
  obtain ⟨i, hi, e⟩ := List.getElem_of_mem hr
  have hs := hw i hi
  rw [fn, List.getD_eq_getElem?_getD, List.getElem?_eq_getElem hi, Option.getD_some, e] at hs
  exact symR_row h this.1 this.2 hs
/-- As many rows as coefficients: the leads are all places. -/
theorem full_leads {B : List (List Nat)} (hg : B.length = g) {l : Nat → Nat} (hr : Red B.length (fn B) l) (hl : ∀ i, i < B.length → l i < g) : ∀ i, i < g → l i = i := fun i hi => by
  have h1 := hr.lead_le (i := i) (by omega)
  have h2 := hr.lead_top hl (i := i) (by omega)
  omega
/-- .. and what is solved are the symbols. -/
theorem solved {B : List (List Nat)} (h : Sz g s M) (hB : Bas g s B) (hw : Within B.length (fn B) g (symR g M)) (hg : B.length = g) : B.map (List.drop g) = M := by
  obtain ⟨l, hr, hl⟩ := hB.leads
  have hll := full_leads hg hr hl
  refine (show Sz g s (B.map (List.drop g)) from ⟨by rw [List.length_map, hg], fun x hx => by
    obtain ⟨y, hy, rfl⟩ := List.mem_map.1 hx
    have := hB.ok y hy
    exact ⟨by rw [List.length_drop, this.1]; omega, fun z hz => this.2 z (List.mem_of_mem_drop hz)⟩⟩).ext h fun i hi => ?_
  have hiB : i < B.length := by omega
  have hok := hB.ok.at_ hiB
  have hm : B.getD i [] ∈ B := by rw [List.getD_eq_getElem?_getD, List.getElem?_eq_getElem hiB]; exact List.getElem_mem hiB
  have hrow := bas_rows h hB hw _ hm
  have ht : ((B.getD i []).take g).length = g := by rw [List.length_take, hok.1]; omega
  have hta : AllB ((B.getD i []).take g) := hok.2.take g
  have hu : (B.getD i []).take g = vUnit g i := by
    refine vec_inj (ht.trans (tab_length _ _).symm) hta (vUnit_all g i) ?_
    rw [vec_unit hi]
    funext j
    by_cases hj : j < g
    · have e : vec ((B.getD i []).take g) j = fn B i j := by
        show byte (((B.getD i []).take g).getD j 0) = byte ((B.getD i []).getD j 0)
        rw [List.getD_eq_getElem?_getD, List.getElem?_take, if_pos hj, ← List.getD_eq_getElem?_getD]
      rw [e]
      by_cases hji : j = i
      · subst hji
        have := hr.one j hiB
        rw [hll j hj] at this
        rw [this, unitM, if_pos rfl]
      · have := hr.zero j i (by omega) hiB (fun e => hji e.symm)
        rw [hll j hj] at this
        rw [this, unitM, if_neg hji]
    · rw [vec_wide ht j (by omega), unitM, if_neg (by omega)]
  have e2 : (B.map (List.drop g)).getD i [] = payV g s M (vUnit g i) := by
    rw [List.getD_eq_getElem?_getD, List.getElem?_map, List.getElem?_eq_getElem hiB]
    show (B[i]).drop g = _
    have : B.getD i [] = B[i] := by rw [List.getD_eq_getElem?_getD, List.getElem?_eq_getElem hiB]; rfl
    rw [← this, hrow, rowV, hu, List.drop_append_of_le_length (by rw [vUnit, tab_length]; exact Nat.le_refl _), List.drop_of_length_le (by rw [vUnit, tab_length]; exact Nat.le_refl _), List.nil_append]
  rw [fn, e2, payV_eq h (vUnit_all g i), vec_rowN (vUnit_all g i) h, vec_unit hi, unit_mul laws hi]
end
end Go.Proofs.YtgelalbmhllccaaGreat
/- One basis of one span; rows told by what they have at the leads; a basis as a reduced matrix. -/
namespace Go.Proofs.YtgelalbmhllccaaGreat
open Lin
set_option linter.unusedVariables false
section
variable {g s : Nat} {M B C : List (List Nat)}
theorem vec_vComb {nc k : Nat} {N : List (List Nat)} {c : List Nat} (hN : Sz k nc N) (hc : AllB c) : vec (vComb nc N c k) = comb k (fn N) (vec c) := by
  rw [show vComb nc N c k = rowN c N k nc from tab_congr fun j _ => sumX_congr fun i hi => mul_comm' _ _ ((hN.at_ hi).2.getD j) (hc.getD i), vec_rowN hc hN]
theorem vComb_all {nc k : Nat} {N : List (List Nat)} {c : List Nat} (hN : Sz k nc N) (hc : AllB c) : AllB (vComb nc N c k) := by
  rw [show vComb nc N c k = rowN c N k nc from tab_congr fun j _ => sumX_congr fun i hi => mul_comm' _ _ ((hN.at_ hi).2.getD j) (hc.getD i)]
  exact rowN_all hc
theorem Bas.sz (h : Bas g s B) : Sz B.length (g + s) B := ⟨rfl, h.ok⟩
end
end Go.Proofs.YtgelalbmhllccaaGreat
/- One side of the rows of a basis: what is left of a row, and where a new one stands. -/
namespace Go.Proofs.YtgelalbmhllccaaGreat
open Lin
set_option linter.unusedVariables false
theorem getD_take {l : List Nat} {g i : Nat} (h : i < g) : (l.take g).getD i 0 = l.getD i 0 := by
  rw [List.getD_eq_getElem?_getD, List.getD_eq_getElem?_getD, List.getElem?_take, if_pos h]
theorem getD_drop (l : List Nat) (g i : Nat) : (l.drop g).getD i 0 = l.getD (g + i) 0 := by
  rw [List.getD_eq_getElem?_getD, List.getD_eq_getElem?_getD, List.getElem?_drop]
theorem getD_map_side (f : List Nat → List Nat) (h0 : f [] = []) (B : List (List Nat)) (i : Nat) : (B.map f).getD i [] = f (B.getD i []) := by
  rw [List.getD_eq_getElem?_getD, List.getD_eq_getElem?_getD, List.getElem?_map]
  cases B[i]? with
  | none => exact h0.symm
  | some x => rfl
theorem tab_take (g s : Nat) (f : Nat → Nat) : (tab (g + s) f).take g = tab g f := list_ext (by rw [List.length_take, tab_length, tab_length]; omega) fun i hi => by
  rw [List.length_take, tab_length] at hi
  rw [getD_take (by omega), tab_getD, tab_getD, if_pos (by omega), if_pos (by omega)]
theorem tab_drop (g s : Nat) (f : Nat → Nat) : (tab (g + s) f).drop g = tab s fun j => f (g + j) := list_ext (by rw [List.length_drop, tab_length, tab_length]; omega) fun i hi => by
  rw [List.length_drop, tab_length] at hi
  rw [getD_drop, tab_getD, tab_getD, if_pos (by omega), if_pos (by omega)]
/-- A row, and of k rows each as often as its number says, added. -/
def plusN (N : Nat) (x : List Nat) (rows : List (List Nat)) (D : List Nat) (k : Nat) : List Nat := tab N fun j => x.getD j 0 ^^^ vCombAt rows D k j
theorem plusN_len (N : Nat) (x : List Nat) (rows : List (List Nat)) (D : List Nat) (k : Nat) : (plusN N x rows D k).length = N := tab_length _ _
theorem combAt_take (B : List (List Nat)) (D : List Nat) (k : Nat) {g j : Nat} (h : j < g) : vCombAt (B.map (List.take g)) D k j = vCombAt B D k j := sumX_congr fun i _ => by
  rw [getD_map_side (List.take g) (by simp), getD_take h]
theorem combAt_drop (B : List (List Nat)) (D : List Nat) (k g j : Nat) : vCombAt (B.map (List.drop g)) D k j = vCombAt B D k (g + j) := sumX_congr fun i _ => by
  rw [getD_map_side (List.drop g) (by simp), getD_drop]
theorem plusN_take (g s : Nat) (x : List Nat) (B : List (List Nat)) (D : List Nat) (k : Nat) : (plusN (g + s) x B D k).take g = plusN g (x.take g) (B.map (List.take g)) D k := by
  rw [plusN, tab_take]
  exact tab_congr fun j hj => by rw [getD_take hj, combAt_take B D k hj]
theorem plusN_drop (g s : Nat) (x : List Nat) (B : List (List Nat)) (D : List Nat) (k : Nat) : (plusN (g + s) x B D k).drop g = plusN s (x.drop g) (B.map (List.drop g)) D k := by
  rw [plusN, tab_drop]
  exact tab_congr fun j _ => by rw [getD_drop, combAt_drop]
theorem vAddS_take (g s : Nat) (m u : List Nat) (c : Nat) : (vAddS (g + s) m u c).take g = vAddS g (m.take g) (u.take g) c := by
  rw [vAddS, tab_take]; exact tab_congr fun j hj => by rw [getD_take hj, getD_take hj]
theorem vAddS_drop (g s : Nat) (m u : List Nat) (c : Nat) : (vAddS (g + s) m u c).drop g = vAddS s (m.drop g) (u.drop g) c := by
  rw [vAddS, tab_drop]; exact tab_congr fun j _ => by rw [getD_drop, getD_drop]
theorem vScale_take (g s : Nat) (m : List Nat) (c : Nat) : (vScale (g + s) m c).take g = vScale g (m.take g) c := by
  rw [vScale, tab_take]; exact tab_congr fun j hj => by rw [getD_take hj]
theorem vScale_drop (g s : Nat) (m : List Nat) (c : Nat) : (vScale (g + s) m c).drop g = vScale s (m.drop g) c := by
  rw [vScale, tab_drop]; exact tab_congr fun j _ => by rw [getD_drop]
theorem vAddS_none {n : Nat} {m : List Nat} (u : List Nat) (h : m.length = n) (hu : AllB u) : vAddS n m u 0 = m := by
  subst h
  refine Eq.trans (tab_congr fun j _ => ?_) (tab_self m)
  rw [mul_comm' _ 0 (hu.getD j) (by decide), mul_zero_left, Nat.xor_zero]
section
variable {g s : Nat} {B : List (List Nat)} {row : List Nat}
/-- What is left of a row. -/
theorem leftB_eq {l : Nat → Nat} (h : Bas g s B) (hr : Red B.length (fn B) l) (hl : row.length = g + s) (ha : AllB row) : leftB (g + s) B row = plusN (g + s) row B (tab B.length fun i => row.getD (l i) 0) B.length := by
  have hD : AllB (tab B.length fun i => row.getD (l i) 0) := fun x hx => by
    obtain ⟨i, _, rfl⟩ := List.mem_map.1 hx
    exact ha.getD _
  have hv := vec_vComb h.sz hD
  have hva := vComb_all h.sz hD
  have hpa : AllB (plusN (g + s) row B (tab B.length fun i => row.getD (l i) 0) B.length) := fun x hx => by
    obtain ⟨j, hj, rfl⟩ := List.mem_map.1 hx
    have := hva.getD j
    rw [vComb, tab_getD, if_pos (List.mem_range.1 hj)] at this
    exact xor_lt (ha.getD _) this
  refine vec_inj (by rw [left_len hl, plusN_len]) (left_all h.ok ha) hpa ?_
  rw [left_vec h.ok hr hl ha]
  funext j
  apply By.ext
  rw [vec_v hpa, add_v, vec_v ha, plusN, tab_getD]
  have e : (comb B.length (fn B) (fun i => vec row (l i)) j).v = (vComb (g + s) B (tab B.length fun i => row.getD (l i) 0) B.length).getD j 0 := by
    rw [← vec_v hva, hv]
    congr 1
    exact sm_congr fun i hi => by
      show vec row (l i) * _ = vec (tab B.length fun i => row.getD (l i) 0) i * _
      congr 1
      show byte _ = byte _
      rw [tab_getD, if_pos hi]
  rw [e, vComb, tab_getD]
  by_cases hj : j < g + s
  · rw [if_pos hj, if_pos hj]
  · rw [if_neg hj, if_neg hj, List.getD_eq_getElem?_getD, List.getElem?_eq_none (by omega)]; rfl
theorem lead_col {l : Nat → Nat} (h : Bas g s B) (hr : Red B.length (fn B) l) {i : Nat} (hi : i < B.length) (hlg : l i < g) : vLead g ((B.getD i []).take g) = (l i : Int) := by
  have hw := h.ok.at_ hi
  have h1 : (B.getD i []).getD (l i) 0 = 1 := by
    have := congrArg By.v (hr.one i hi)
    rwa [show (fn B i (l i)).v = (B.getD i []).getD (l i) 0 from vec_v hw.2 _] at this
  have h0 : ∀ j, j < l i → (B.getD i []).getD j 0 = 0 := fun j hj => by
    have := congrArg By.v (hr.low i j hi hj)
    rwa [show (fn B i j).v = (B.getD i []).getD j 0 from vec_v hw.2 _] at this
  exact vLead_at hlg (by rw [getD_take hlg, h1]; decide) fun j hj => by rw [getD_take (by omega), h0 j hj]
/-- Where a new row stands. -/
theorem insB_at {L q : Nat} (h : Bas g s B) (hl : row.length = g + s) (ha : AllB row) (hL : vLead g (leftB (g + s) B row) = (L : Int)) (hq : q ≤ B.length)
    (hlo : ∀ i, i < q → ∃ j, j < L ∧ (B.getD i []).getD j 0 ≠ 0) (hhi : q < B.length → ∀ j, j < L → (B.getD q []).getD j 0 = 0) :
    insB g s B row = (clearedL (g + s) B (vScale (g + s) (leftB (g + s) B row) (invN ((leftB (g + s) B row).getD L 0))) L).take q ++ [vScale (g + s) (leftB (g + s) B row) (invN ((leftB (g + s) B row).getD L 0))] ++ (clearedL (g + s) B (vScale (g + s) (leftB (g + s) B row) (invN ((leftB (g + s) B row).getD L 0))) L).drop q := by
  have hneg : ¬ vLead g (leftB (g + s) B row) < 0 := by rw [hL]; omega
  have hL2 : vLead (g + s) (leftB (g + s) B row) = (L : Int) := (vLead_less (by omega) hneg).trans hL
  obtain ⟨l, hr, hlg⟩ := h.leads
  have hLt : L < g ∧ (leftB (g + s) B row).getD L 0 ≠ 0 := by
    obtain ⟨L', h1, h2⟩ := vLead_some hneg
    rw [hL] at h2
    obtain rfl : L = L' := by omega
    obtain ⟨a, b, _⟩ := (vLeadTo_some _ g L).1 h1
    exact ⟨a, b⟩
  have cell : ∀ i, i < B.length → ∀ j, (fn B i j).v = (B.getD i []).getD j 0 := fun i hi j => vec_v (h.ok.at_ hi).2 _
  have lo2 : ∀ i, i < q → ¬ (L : Int) < vLead (g + s) (B.getD i []) := fun i hi => by
    rw [h.lead_at hr (show i < B.length by omega)]
    obtain ⟨j, hj, h0⟩ := hlo i hi
    intro hlt
    refine h0 ?_
    rw [← cell i (by omega), hr.low i j (by omega) (by omega)]; rfl
  have hi2 : q < B.length → (L : Int) < vLead (g + s) (B.getD q []) := fun hq2 => by
    rw [h.lead_at hr hq2]
    rcases Nat.lt_trichotomy L (l q) with e | e | e
    · omega
    · exfalso
      have := left_nought h.ok hr hl ha hq2
      rw [← e] at this
      exact hLt.2 ((vec_zero_iff (left_all h.ok ha) L).1 this)
    · exfalso
      have h1 := hhi hq2 (l q) e
      rw [← cell q hq2, hr.one q hq2] at h1
      exact absurd h1 (by decide)
  have hn : ¬ inB g s B row := hneg
  rw [insB_new hn]
  obtain ⟨v, hv⟩ : ∃ v, leftB (g + s) B row = v := ⟨_, rfl⟩
  have hv' : clearTo (g + s) B row B.length = v := hv
  rw [hv] at hL2 hLt ⊢
  have hcl : ∀ u : List Nat, (clearedL (g + s) B u L).length = B.length := fun u => by simp [clearedL]
  rw [insertN]
  simp only [hv', hL2, Int.toNat_natCast]
  rw [if_neg (show ¬ (L : Int) < 0 by omega)]
  have hlay := layTo_eq (u := vScale (g + s) v (invN (v.getD L 0))) hq lo2 hi2 B.length (Nat.le_refl _)
  rw [hlay]
  by_cases hc : B.length ≤ q
  · obtain rfl : q = B.length := by omega
    rw [if_pos (Nat.le_refl _)]
    simp only [if_neg (show ¬ (false = true) by decide)]
    rw [List.drop_of_length_le (by rw [hcl]; omega), List.append_nil]
  · rw [if_neg hc]
    simp only [if_pos]
    rw [List.take_of_length_le (l := clearedL (g + s) B _ L) (i := B.length) (by rw [hcl]; omega)]
end
end Go.Proofs.YtgelalbmhllccaaGreat
/- The landed code of layer 7: a row and rows, each as often as its number says, added (one side of them). -/
namespace Go.Proofs.YtgelalbmhllccaaGreat
open Go.RowKit
set_option linter.unusedVariables false
set_option linter.unusedSimpArgs false
theorem OwnRows.litN (w : World) (t : TypeId) (n : Nat) (rs : List RowV) (cs : Array Value) (hc : cs = (rs.map RowV.val).toArray) (hl : rs.length = n) (hn : n ≤ 1000000) : OwnRows (w.alloc (.cells cs t)) w.heap.size t (some ⟨w.heap.size, 0, none⟩) n n rs := by
  subst hc
  have h := World.ownsRow_lit (w := w) (base := w.heap.size) (e := t) (size := 1) (rs.map RowV.val).toArray n (Nat.le_refl _) (by unfold maxLen; omega) (by simp [hl])
  simpa [OwnRows] using h
theorem OwnRows.lowerB {w : World} {base base' n c : Nat} {e : TypeId} {A : Option Addr} {rs : List RowV} (h : OwnRows w base e A n c rs) (hb : base' ≤ base) : OwnRows w base' e A n c rs := by
  refine ⟨h.1, ?_⟩
  rcases h.2 with h1 | ⟨g, cap, cur, hv, hg, r⟩
  · exact Or.inl h1
  · exact Or.inr ⟨g, cap, cur, hv, Nat.le_trans hb hg, r⟩
theorem OwnRows.grownB {w w' : World} {base n c : Nat} {e : TypeId} {A : Option Addr} {rs : List RowV} {row : Option Nat} (h : OwnRows w base e A n c rs) (hg : w.grownBy w' row) (hn : (Value.slice A n c).ownBlock = none ∨ (Value.slice A n c).ownBlock ≠ row) : OwnRows w' base e A n c rs := h.kept hg hn
theorem blocks_apart2 {w : World} {base base' n n' c c' : Nat} {e e' : TypeId} {A A' : Option Addr} {xs : List Nat} {rs : List RowV} (h' : OwnRows w base' e' A' n' c' rs) (h : Own w base e A n c xs) (he : e ≠ e') :
    (Value.slice A' n' c').ownBlock = none ∨ (Value.slice A' n' c').ownBlock ≠ (Value.slice A n c).ownBlock := by
  rcases blocks_apart h h' he with z | z
  · cases hb : (Value.slice A' n' c').ownBlock with
    | none => exact Or.inl rfl
    | some g => exact Or.inr (by rw [z]; simp)
  · exact Or.inr fun e => z e.symm
theorem combAt_snoc {R : List (List Nat)} {cs : List Nat} {m : Nat} (h1 : R.length = m) (h2 : cs.length = m) (x : List Nat) (c j : Nat) : vCombAt (R ++ [x]) (cs ++ [c]) (m + 1) j = vCombAt R cs m j ^^^ mulN (x.getD j 0) c := by
  rw [vCombAt, sumX]
  have e1 : (R ++ [x]).getD m [] = x := by rw [List.getD_eq_getElem?_getD, List.getElem?_append_right (by omega), h1, Nat.sub_self]; rfl
  have e2 : (cs ++ [c]).getD m 0 = c := by rw [List.getD_eq_getElem?_getD, List.getElem?_append_right (by omega), h2, Nat.sub_self]; rfl
  rw [e1, e2]
  congr 1
  exact sumX_congr fun i hi => by
    have e3 : (R ++ [x]).getD i [] = R.getD i [] := by rw [List.getD_eq_getElem?_getD, List.getElem?_append_left (by omega), ← List.getD_eq_getElem?_getD]
    have e4 : (cs ++ [c]).getD i 0 = cs.getD i 0 := by rw [List.getD_eq_getElem?_getD, List.getElem?_append_left (by omega), ← List.getD_eq_getElem?_getD]
    rw [e3, e4]
/-- What is laid for the sum. -/
structure PlusI (w wr : World) (N k m : Nat) (xr : List Nat) (R : List (List Nat)) (D : List Nat) (A1 : Option Addr) (c1 : Nat) (A2 : Option Addr) (c2 : Nat) (rs : List RowV) (cs : List Nat) : Prop where
  own1 : OwnRows wr w.heap.size 43 A1 m c1 rs
  own2 : Own wr w.heap.size 5 A2 m c2 cs
  rows : ∀ r ∈ rs, Bytes w w.heap.size r.A N r.xs ∧ r.n = N ∧ N ≤ r.c
  pos : 0 < m
  le : m ≤ k + 1
  sum : ∀ j, vCombAt (rowsOf rs) cs m j = xr.getD j 0 ^^^ vCombAt R D k j
  keep : Keep w wr
section
variable {w wr w' : World} {N k m : Nat} {xr : List Nat} {R : List (List Nat)} {D : List Nat} {A1 : Option Addr} {c1 : Nat} {A2 : Option Addr} {c2 : Nat} {rs : List RowV} {cs : List Nat}
theorem PlusI.later (h : PlusI w wr N k m xr R D A1 c1 A2 c2 rs cs) (kp : Keep wr w') : PlusI w w' N k m xr R D A1 c1 A2 c2 rs cs := ⟨h.own1.keep kp, h.own2.keep kp, h.rows, h.pos, h.le, h.sum, h.keep.trans kp⟩
theorem PlusI.skip (h : PlusI w wr N k m xr R D A1 c1 A2 c2 rs cs) (hd : D.getD k 0 = 0) : PlusI w wr N (k + 1) m xr R D A1 c1 A2 c2 rs cs :=
  ⟨h.own1, h.own2, h.rows, h.pos, by have := h.le; omega, fun j => by rw [h.sum j, vCombAt, vCombAt, sumX, hd, mul_zero_right, Nat.xor_zero], h.keep⟩
theorem PlusI.sum_next (h : PlusI w wr N k m xr R D A1 c1 A2 c2 rs cs) {r : RowV} (hr : R.getD k [] = r.xs) (j : Nat) : vCombAt (rowsOf (rs ++ [r])) (cs ++ [D.getD k 0]) (m + 1) j = xr.getD j 0 ^^^ vCombAt R D (k + 1) j := by
  have e : rowsOf (rs ++ [r]) = rowsOf rs ++ [r.xs] := by simp [rowsOf]
  rw [e, combAt_snoc (by rw [rowsOf, List.length_map, h.own1.length]) h.own2.length, h.sum j, ← hr, Nat.xor_assoc]; rfl
theorem PlusI.comb (h : PlusI w wr N k m xr R D A1 c1 A2 c2 rs cs) : combOf N rs cs = plusN N xr R D k ∧ combErr N rs = 0 := by
  have hf : ∀ r ∈ rs, r.n = N := fun r hr => (h.rows r hr).2.1
  rw [combOf, combErr, if_pos hf, if_pos hf]
  refine ⟨?_, rfl⟩
  rw [h.own1.length]
  exact tab_congr fun j _ => h.sum j
theorem PlusI.rowsAt (h : PlusI w wr N k m xr R D A1 c1 A2 c2 rs cs) (hN : N ≤ 65535) : RowsAt wr wr.heap.size A1 m rs := h.own1.rows fun r hr => by
  obtain ⟨a, b, c⟩ := h.rows r hr
  rw [b]
  exact ⟨(a.below (Below.mono h.keep (Nat.le_refl _))).mono h.keep.size, by omega, c⟩
theorem PlusI.head (h : PlusI w wr N k m xr R D A1 c1 A2 c2 rs cs) : ∃ r0, rs[0]? = some r0 ∧ r0.n = N := by
  have hl := h.own1.length
  have hp := h.pos
  exact ⟨_, List.getElem?_eq_getElem (by omega), (h.rows _ (List.getElem_mem (by omega))).2.1⟩
end
set_option maxRecDepth 100000 in
set_option maxHeartbeats 4000000 in
theorem bplus_any (f : Nat) (sel : PairV → RowV) (eg : ∀ args w, (callFunc f args).run Tryz.prog w = .ok (.enter f args) w) (b n c N cD cr : Nat) (A AD Ar : Option Addr) (xr : List Nat) (r : PairV) (F : Nat → Prop) (ps : List PairV) (D : List Nat) (w : World)
    (hfr : ∀ w1, Calls Tryz.prog f #[r.agg] w1 fun e w' => e = .returned (.slice Ar N cr) ∧ Keep w1 w')
    (hfp : ∀ p ∈ ps, ∀ w1, Calls Tryz.prog f #[p.agg] w1 fun e w' => e = .returned (.slice (sel p).A N (sel p).c) ∧ Keep w1 w')
    (hb : b < w.heap.size) (c2 : w.cell? ⟨b, 2, none⟩ = some (.slice A n c)) (hst : StIn w F A n ps) (hF : ∀ b, F b → b < w.heap.size) (hr : Bytes w w.heap.size Ar N xr) (hrc : N ≤ cr)
    (hrow : ∀ p ∈ ps, Bytes w w.heap.size (sel p).A N (sel p).xs ∧ N ≤ (sel p).c) (hD : Bytes w w.heap.size AD n D) (hn : n ≤ 255) (hN : N ≤ 65535) :
    Calls Tryz.prog 120 #[.pointer (some ⟨b, 0, none⟩), r.agg, .slice AD n cD, .func (.func f) #[] #[]] w fun e w' => ∃ A' c', e = .returned (.slice A' N c') ∧ Own w' w.heap.size 5 A' N c' (plusN N xr (ps.map fun p => (sel p).xs) D n) ∧ Keep w w' := by
  obtain ⟨⟨A1, n1, c1, x1⟩, ⟨A2, n2, c2', x2⟩⟩ := r
  have HFR : Hid (∀ w1, Calls Tryz.prog f #[.agg #[.slice A1 n1 c1, .slice A2 n2 c2']] w1 fun e w' => e = .returned (.slice Ar N cr) ∧ Keep w1 w') := hfr
  show Calls _ _ #[_, .agg #[.slice A1 n1 c1, .slice A2 n2 c2'], _, _] _ _
  have HFP := Lib.hid hfp
  have HST := Lib.hid hst
  have HFF := Lib.hid hF
  have HRB := Lib.hid hr
  have HROW := Lib.hid hrow
  have HD := Lib.hid hD
  have HC2 := Lib.hid c2
  have hall := hr.all
  have HALL := Lib.hid hall
  clear hfr hfp hst hF hr hrow hD c2 hall
  go_enter Tryz.func120, Tryz.ntmps120
  go_wp2_with fail
  refine (HFR.out _).mono ?_
  rintro e w1 ⟨rfl, k1⟩
  have K1 : Hid (Keep w w1) := ((Keep.refl w).alloc _ _).trans k1
  clear k1
  go_wp2_with fail
  have hlit : PlusI w ((w1.alloc (.cells #[.slice Ar N cr] 43)).alloc (.cells #[.int .u8 1] 5)) N 0 1 xr (ps.map fun p => (sel p).xs) D (some ⟨w1.heap.size, 0, none⟩) 1 (some ⟨w1.heap.size + 1, 0, none⟩) 1 [⟨Ar, N, cr, xr⟩] [1] := by
    have o1 := (OwnRows.litN w1 43 1 [⟨Ar, N, cr, xr⟩] #[.slice Ar N cr] rfl rfl (by decide)).lowerB K1.out.size
    have o2 := (Own.lit (w1.alloc (.cells #[.slice Ar N cr] 43)) 5 1 [1] #[.int .u8 1] rfl rfl (by decide) (by decide)).lower (base' := w.heap.size) (by have := K1.out.size; simp; omega)
    rw [show (w1.alloc (.cells #[.slice Ar N cr] 43)).heap.size = w1.heap.size + 1 by simp] at o2
    refine ⟨o1.alloc _, o2, fun r hr => ?_, by decide, by decide, fun j => ?_, (K1.out.alloc _ _).alloc _ _⟩
    · obtain rfl := List.mem_singleton.1 hr
      exact ⟨HRB.out, rfl, hrc⟩
    · show 0 ^^^ mulN (xr.getD j 0) 1 = _ ^^^ 0
      rw [mul_one_right _ (HALL.out.getD j), Nat.zero_xor, Nat.xor_zero]
  have HLIT := Lib.hid hlit
  clear hlit
  go_loopw [9, 10, 22] (fun u v i wr => ∃ (k m d1 d2 : Nat) (V1 V2 : Option Addr) (rs : List RowV) (cs : List Nat), k ≤ n ∧ i = .int .i64 k ∧ u = .slice V1 m d1 ∧ v = .slice V2 m d2 ∧ PlusI w wr N k m xr (ps.map fun p => (sel p).xs) D V1 d1 V2 d2 rs cs) (fun _ _ i _ => n - (intOf i).toNat)
  case atStart => exact ⟨0, 1, 1, 1, _, _, _, _, by omega, rfl, rfl, rfl, HLIT.out⟩
  case round =>
    obtain ⟨k, m, d1, d2, V1, V2, rs, cs, hk, rfl, rfl, rfl, hI⟩ := hrel
    have HI := Lib.hid hI
    have KI := Lib.hid hI.keep
    have hm := hI.le
    clear hI HLIT K1
    by_cases hlt : k < n
    · obtain ⟨bD, oD, rfl, hbD, hcD⟩ := (HD.out.keep (Nat.le_refl _) KI.out).at_ hlt
      have e1 : (0 : Int) ≤ (k : Int) := Int.natCast_nonneg _
      have e2 : (k : Int) < (n : Int) := by omega
      have hx := HD.out.all.getD k
      by_cases hz : D.getD k 0 = 0
      · have HZ := Lib.hid hz
        rw [hz] at hcD
        clear hz hx
        go_wp2_with fail
        go_roundw
        case rel => exact ⟨k + 1, m, d1, d2, _, _, _, _, by omega, by go_num, rfl, rfl, HI.out.skip HZ.out⟩
        case measure => simp [intOf]; omega
      · obtain ⟨y, hy⟩ : ∃ y, D.getD k 0 = y := ⟨_, rfl⟩
        rw [hy] at hcD hz hx
        have HY := Lib.hid hy
        have b1 : ((y : Int) != 0) = true := by rw [bne_iff_ne]; omega
        obtain ⟨b2, o2, p, rfl, hb2, hp, hc1, hc2, _⟩ := (HST.out.keep KI.out).at_ hlt
        have HP := Lib.hid hp
        have hc3 := (KI.out.cell (p := ⟨b, 2, none⟩) hb).trans HC2.out
        have HX := Lib.hid hx
        clear hy hz hp hb2 hx
        go_wp2_with fail
        refine (HFP.out p (List.mem_of_getElem? HP.out) _).mono ?_
        rintro e w2 ⟨rfl, k2⟩
        have K2 := Lib.hid k2
        have HI2 := Lib.hid (HI.out.later k2)
        clear k2 HI hc1 hc2 hcD hc3
        go_wp2_with (at_builtin; refine wpList_append_row rfl _ _ 40 rfl ⟨(sel p).A, N, (sel p).c, (sel p).xs⟩ Tryz.underlying40 infoRow rfl (HI2.out.own1.alloc _) rfl (by rw [World.cell?_alloc_at _ _ _ _ (by simp)]; rfl) (by omega) (by have := HI2.out.keep.size; simp; omega) ?_)
        intro A4 c4 w4 hl4 hgr4 _
        have HK4 := Lib.hid (Keep.grown (Keep.alloc HI2.out.keep _ _) hgr4 (HI2.out.own1.rowLe))
        have HD4 := Lib.hid ((HI2.out.own2.alloc (.cells #[.slice (sel p).A N (sel p).c] 43)).grown hgr4 (blocks_apart (HI2.out.own2.alloc (.cells #[.slice (sel p).A N (sel p).c] 43)) (HI2.out.own1.alloc (.cells #[.slice (sel p).A N (sel p).c] 43)) (by decide)))
        have HL4 := Lib.hid hl4
        clear hl4 hgr4
        go_wp2_with (at_builtin; refine wpList_append_bytes rfl _ _ 43 rfl Tryz.underlying43 info5 rfl (HD4.out.alloc _) rfl (Bytes.one w4 y HX.out 5) (by omega) (by have := HK4.out.size; simp; omega) ?_)
        intro A6 c6 w6 hd6 hgr6 _
        have HK6 := Lib.hid (Keep.grown (Keep.alloc HK4.out _ _) hgr6 (HD4.out.rowLe))
        have HL6 := Lib.hid ((HL4.out.alloc (.cells #[.int .u8 (y : Int)] 5)).grownB hgr6 (blocks_apart2 (HL4.out.alloc (.cells #[.int .u8 (y : Int)] 5)) (HD4.out.alloc (.cells #[.int .u8 (y : Int)] 5)) (by decide)))
        have HI6 : Hid (PlusI w w6 N (k + 1) (m + 1) xr (ps.map fun p => (sel p).xs) D A4 c4 A6 c6 (rs ++ [⟨(sel p).A, N, (sel p).c, (sel p).xs⟩]) (cs ++ [y])) := by
          refine ⟨HL6.out, hd6, fun r hr => ?_, by omega, by omega, fun j => ?_, HK6.out⟩
          · rcases List.mem_append.1 hr with h | h
            · exact HI2.out.rows r h
            · obtain rfl := List.mem_singleton.1 h
              have := HROW.out p (List.mem_of_getElem? HP.out)
              exact ⟨this.1, rfl, this.2⟩
          · rw [← HY.out]
            refine HI2.out.sum_next ?_ j
            rw [List.getD_eq_getElem?_getD, List.getElem?_map, HP.out]; rfl
        clear hd6 hgr6 HL6 HK6 HD4 HL4 HK4
        go_wp2_with fail
        go_roundw
        case rel => exact ⟨k + 1, m + 1, c4, c6, A4, A6, _, _, by omega, by go_num, rfl, rfl, HI6.out⟩
        case measure => simp [intOf]; omega
    · obtain rfl : k = n := by omega
      obtain ⟨r0, hr0, hrn⟩ := HI.out.head
      have HC := Lib.hid HI.out.comb
      have hvc := vcomb_any _ _ m d1 d2 V1 V2 rs cs wr (HI.out.rowsAt hN) HI.out.own2.bytes (Nat.le_refl _) (Nat.le_refl _) (by have := HI.out.pos; omega) (by omega) r0 hr0
      rw [hrn, HC.out.1, HC.out.2] at hvc
      have HV := Lib.hid hvc
      clear hvc hr0 hrn
      go_wp2_with fail
      refine HV.out.mono ?_
      rintro e w3 ⟨A3, n3, c3, rfl, o3, k3⟩
      obtain rfl : n3 = N := o3.length.symm.trans (plusN_len _ _ _ _ _)
      have O3 := Lib.hid o3
      have K3 := Lib.hid k3
      clear o3 k3
      go_wp2_with fail
      go_ret
      exact ⟨A3, c3, rfl, O3.out.lower KI.out.size, KI.out.trans K3.out⟩
end Go.Proofs.YtgelalbmhllccaaGreat
