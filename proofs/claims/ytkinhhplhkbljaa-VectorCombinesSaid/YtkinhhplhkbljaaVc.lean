/- The landed sums, multiples and products of vectors. -/
import Derived.Test.YtkinhhplhkbljaaVb
namespace Go.Proofs.Ytkinhhplhkbljaa
open Go.RowKit

def upto (n : Nat) (f z : Nat → Nat) (i : Nat) : List Nat := tab n fun j => if j < i then f j else z j
theorem upto_zero (n : Nat) (f z : Nat → Nat) : upto n f z 0 = tab n z := tab_congr fun j _ => by rw [if_neg (by omega)]
theorem upto_all (n : Nat) (f z : Nat → Nat) : upto n f z n = tab n f := tab_congr fun j hj => by rw [if_pos hj]
theorem upto_getD (n : Nat) (f z : Nat → Nat) (i : Nat) (hi : i < n) : (upto n f z i).getD i 0 = z i := by
  rw [upto, tab_getD, if_pos hi, if_neg (by omega)]
theorem upto_set (n : Nat) (f z : Nat → Nat) (i : Nat) (_hi : i < n) : (upto n f z i).set i (f i) = upto n f z (i + 1) := by
  refine list_ext (by simp [upto, tab_length]) fun j hj => ?_
  rw [List.length_set, upto, tab_length] at hj
  have e2 : (upto n f z (i + 1)).getD j 0 = if j < i + 1 then f j else z j := by rw [upto, tab_getD, if_pos hj]
  rw [e2, List.getD_eq_getElem?_getD, List.getElem?_set]
  by_cases e : i = j
  · subst e
    rw [if_pos rfl, if_pos (by simp [upto, tab_length]; omega), if_pos (by omega)]; rfl
  · rw [if_neg e, ← List.getD_eq_getElem?_getD, upto, tab_getD, if_pos hj]
    by_cases h1 : j < i
    · rw [if_pos h1, if_pos (by omega)]
    · rw [if_neg h1, if_neg (by omega)]
theorem tab_zeros (n : Nat) : tab n (fun _ => 0) = List.replicate n 0 := list_ext (by simp [tab_length]) fun i hi => by
  rw [tab_length] at hi
  rw [tab_getD, if_pos hi, List.getD_eq_getElem?_getD, List.getElem?_replicate, if_pos hi]; rfl
/-- What is being filled. -/
structure Work (w wr : World) (g n bs : Nat) (l : List Nat) : Prop where
  own : Own wr w.heap.size 5 (some ⟨g, 0, none⟩) n n l
  held : Held wr bs (.slice (some ⟨g, 0, none⟩) n n) 22
  keep : Keep w wr
  ne : g ≠ bs
  new : w.heap.size ≤ g
theorem Held.step {w : World} {b g i m : Nat} {v u : Value} {t : TypeId} (h : Held w b v t) (hn : g ≠ b) : Held ((w.setCell ⟨g, i, none⟩ u).drewN m) b v t := by
  show (w.setCell ⟨g, i, none⟩ u).heap[b]? = _
  rw [Below.heap_setCell _ _ _ _ (fun e => hn e.symm)]
  exact h
theorem Work.step {w wr : World} {g n bs i v m : Nat} {l : List Nat} (h : Work w wr g n bs l) (hv : v < 256) : Work w ((wr.setCell ⟨g, i, none⟩ (.int .u8 (v : Int))).drewN m) g n bs (l.set i v) :=
  ⟨⟨(h.own.stored hv).1, (h.own.stored (i := i) hv).2⟩, h.held.step h.ne, (h.keep.setCell h.new _).drewN m, h.ne, h.new⟩
theorem Work.meets {w wr : World} {g n bs i : Nat} {f z : Nat → Nat} (h : Work w wr g n bs (upto n f z i)) (hi : i < n) : Meets wr g i n (z i) :=
  ⟨by rw [h.own.cell hi, upto_getD n f z i hi], h.own.frozen i, hi⟩
theorem Timing.setCell {w : World} {p c g i : Nat} {u : Value} (h : Timing w p c) (h1 : g ≠ p) (h2 : g ≠ p + 1) : Timing (w.setCell ⟨g, i, none⟩ u) p c :=
  ⟨by simpa [World.setCell] using h.1, fun j hj => ⟨(World.cell?_setCell_far _ _ _ _ h1).trans (h.2 j hj).1, (World.cell?_setCell_far _ _ _ _ h2).trans (h.2 j hj).2⟩⟩
theorem Timing.alloc {w : World} {p c : Nat} (h : Timing w p c) (o : Obj) : Timing (w.alloc o) p c :=
  ⟨by have := h.1; simp; omega, fun j hj => ⟨(World.cell?_alloc_past _ _ _ (by have := h.1; show p < _; omega)).trans (h.2 j hj).1, (World.cell?_alloc_past _ _ _ h.1).trans (h.2 j hj).2⟩⟩
theorem Work.start {w w1 : World} {g n : Nat} (hg : w1.heap.size = g) (hk : Keep w w1) (hn : n ≤ 140737488355328) :
    Work w ((w1.alloc (.cells (madeCells #[.int .u8 0] n) 5)).alloc (.cells #[.slice (some ⟨g, 0, none⟩) n n] 22)) g n (g + 1) (List.replicate n 0) := by
  subst hg
  refine ⟨((Own.made w1 5 n hn).lower hk.size).alloc _, ?_, (hk.alloc _ _).alloc _ _, by omega, hk.size⟩
  have h := heap_alloc_new (w1.alloc (.cells (madeCells #[.int .u8 0] n) 5)) (.cells #[.slice (some ⟨w1.heap.size, 0, none⟩) n n] 22)
  rwa [show (w1.alloc (.cells (madeCells #[.int .u8 0] n) 5)).heap.size = w1.heap.size + 1 by simp] at h
theorem Held.new {w : World} {b : Nat} (hb : w.heap.size = b) (v : Value) (t : TypeId) : Held (w.alloc (.cells #[v] t)) b v t := by
  subst hb; exact heap_alloc_new w _
theorem Held.alloc {w : World} {b : Nat} {v : Value} {t : TypeId} (h : Held w b v t) (o : Obj) : Held (w.alloc o) b v t := by
  have hlt := lt_of_block h
  show (w.heap.push o)[b]? = _
  rw [Array.getElem?_push_lt hlt, ← Array.getElem?_eq_getElem hlt]
  exact h
theorem Held.keep {w w' : World} {b : Nat} {v : Value} {t : TypeId} (h : Held w b v t) (k : Keep w w') : Held w' b v t := by
  show w'.heap[b]? = _
  rw [k.block b (lt_of_block h)]; exact h
section
variable {w w3 : World} {B B' n ca cb bb bp p bs g c : Nat} {A A' : Option Addr} {xs ys : List Nat}
theorem add_each (hW : Work w w3 g n bs (List.replicate n 0)) (hb : Held w3 bb (.slice A' n cb) 22) (hg : g ≠ bb) (h : Bytes w B A n xs) (h' : Bytes w B' A' n ys) (hB : B ≤ w.heap.size) (hB' : B' ≤ w.heap.size) (hn : n ≤ 140737488351232) :
    Calls Try.prog 29 #[.slice A n ca, .func (.func 30) #[] #[.pointer (some ⟨bb, 0, none⟩), .pointer (some ⟨bs, 0, none⟩)]] w3 fun e w' => e = .returned (.tuple #[]) ∧ Work w w' g n bs (vAdd n xs ys) := by
  rw [← upto_zero n (fun j => xs.getD j 0 ^^^ ys.getD j 0) (fun _ => 0) |>.trans (tab_zeros n)] at hW
  refine (each_any (fun i wr => Work w wr g n bs (upto n (fun j => xs.getD j 0 ^^^ ys.getD j 0) (fun _ => 0) i) ∧ Held wr bb (.slice A' n cb) 22) 30 _ B n ca A xs w3 hn (enters_at Try.func30 (by kernel_rfl) rfl)
    (fun i wr _ hr => h.keep hB hr.1.keep) ⟨hW, hb⟩ (fun i wr hi hr => ?_)).mono fun e w' he => ⟨he.1, by have := he.2.1; rwa [upto_all] at this⟩
  obtain ⟨b2, o2, rfl, h2, hc⟩ := (h'.keep hB' hr.1.keep).at_ hi
  refine (addstep i (xs.getD i 0) (ys.getD i 0) 0 bb bs g n cb b2 o2 wr hr.2 hr.1.held hc (hr.1.meets hi) (h.all.getD i) (h'.all.getD i) hg hr.1.ne (by have := hr.1.new; omega)).mono ?_
  rintro e w' ⟨he, m, rfl⟩
  refine ⟨he, ?_, hr.2.step hg⟩
  rw [← upto_set n _ _ i hi]
  exact hr.1.step (xor_lt (h.all.getD i) (h'.all.getD i))
theorem scale_each (hW : Work w w3 g n bs (List.replicate n 0)) (hp : Held w3 bp (.func (.func 41) #[] #[.pointer (some ⟨p, 0, none⟩), .pointer (some ⟨p + 1, 0, none⟩)]) 53) (ht : Timing w3 p c) (hg : g ≠ bp) (hgp : g ≠ p) (hgp' : g ≠ p + 1) (h : Bytes w B A n xs) (hB : B ≤ w.heap.size) (hn : n ≤ 140737488351232) (hc : c < 256) :
    Calls Try.prog 29 #[.slice A n ca, .func (.func 35) #[] #[.pointer (some ⟨bp, 0, none⟩), .pointer (some ⟨bs, 0, none⟩)]] w3 fun e w' => e = .returned (.tuple #[]) ∧ Work w w' g n bs (vScale n xs c) := by
  rw [← upto_zero n (fun j => mulN (xs.getD j 0) c) (fun _ => 0) |>.trans (tab_zeros n)] at hW
  refine (each_any (fun i wr => Work w wr g n bs (upto n (fun j => mulN (xs.getD j 0) c) (fun _ => 0) i) ∧ Held wr bp (.func (.func 41) #[] #[.pointer (some ⟨p, 0, none⟩), .pointer (some ⟨p + 1, 0, none⟩)]) 53 ∧ Timing wr p c) 35 _ B n ca A xs w3 hn (enters_at Try.func35 (by kernel_rfl) rfl)
    (fun i wr _ hr => h.keep hB hr.1.keep) ⟨hW, hp, ht⟩ (fun i wr hi hr => ?_)).mono fun e w' he => ⟨he.1, by have := he.2.1; rwa [upto_all] at this⟩
  refine (scalestep i (xs.getD i 0) c 0 bp p bs g n wr hr.2.1 hr.2.2 hr.1.held (hr.1.meets hi) (h.all.getD i) hc hg hr.1.ne).mono ?_
  rintro e w' ⟨he, m, rfl⟩
  refine ⟨he, ?_, hr.2.1.step hg, (hr.2.2.setCell hgp hgp').drewN m⟩
  rw [← upto_set n _ _ i hi]
  exact hr.1.step (mulN_lt _ (h.all.getD i))
theorem adds_each (hW : Work w w3 g n bs (List.replicate n 0)) (hp : Held w3 bp (.func (.func 41) #[] #[.pointer (some ⟨p, 0, none⟩), .pointer (some ⟨p + 1, 0, none⟩)]) 53) (ht : Timing w3 p c) (hb : Held w3 bb (.slice A' n cb) 22) (hg : g ≠ bp) (hgp : g ≠ p) (hgp' : g ≠ p + 1) (hgb : g ≠ bb) (h : Bytes w B A n xs) (h' : Bytes w B' A' n ys) (hB : B ≤ w.heap.size) (hB' : B' ≤ w.heap.size) (hn : n ≤ 140737488351232) (hc : c < 256) :
    Calls Try.prog 29 #[.slice A n ca, .func (.func 32) #[] #[.pointer (some ⟨bp, 0, none⟩), .pointer (some ⟨bb, 0, none⟩), .pointer (some ⟨bs, 0, none⟩)]] w3 fun e w' => e = .returned (.tuple #[]) ∧ Work w w' g n bs (vAddS n xs ys c) := by
  rw [← upto_zero n (fun j => xs.getD j 0 ^^^ mulN (ys.getD j 0) c) (fun _ => 0) |>.trans (tab_zeros n)] at hW
  refine (each_any (fun i wr => Work w wr g n bs (upto n (fun j => xs.getD j 0 ^^^ mulN (ys.getD j 0) c) (fun _ => 0) i) ∧ Held wr bp (.func (.func 41) #[] #[.pointer (some ⟨p, 0, none⟩), .pointer (some ⟨p + 1, 0, none⟩)]) 53 ∧ Timing wr p c ∧ Held wr bb (.slice A' n cb) 22) 32 _ B n ca A xs w3 hn (enters_at Try.func32 (by kernel_rfl) rfl)
    (fun i wr _ hr => h.keep hB hr.1.keep) ⟨hW, hp, ht, hb⟩ (fun i wr hi hr => ?_)).mono fun e w' he => ⟨he.1, by have := he.2.1; rwa [upto_all] at this⟩
  obtain ⟨b2, o2, rfl, h2, hcy⟩ := (h'.keep hB' hr.1.keep).at_ hi
  refine (addsstep i (xs.getD i 0) (ys.getD i 0) c 0 bp p bb bs g n cb b2 o2 wr hr.2.1 hr.2.2.1 hr.2.2.2 hr.1.held hcy (hr.1.meets hi) (h.all.getD i) (h'.all.getD i) hc hg hgb hr.1.ne (by have := hr.1.new; omega)).mono ?_
  rintro e w' ⟨he, m, rfl⟩
  refine ⟨he, ?_, hr.2.1.step hg, (hr.2.2.1.setCell hgp hgp').drewN m, hr.2.2.2.step hgb⟩
  rw [← upto_set n _ _ i hi]
  exact hr.1.step (xor_lt (h.all.getD i) (mulN_lt _ (h'.all.getD i)))
theorem comb_each {l : List Nat} (hl : l.length = n) (hlb : AllB l) (hW : Work w w3 g n bs l) (hp : Held w3 bp (.func (.func 41) #[] #[.pointer (some ⟨p, 0, none⟩), .pointer (some ⟨p + 1, 0, none⟩)]) 53) (ht : Timing w3 p c) (hg : g ≠ bp) (hgp : g ≠ p) (hgp' : g ≠ p + 1) (h : Bytes w B A n xs) (hB : B ≤ w.heap.size) (hn : n ≤ 140737488351232) (hc : c < 256) :
    Calls Try.prog 29 #[.slice A n ca, .func (.func 39) #[] #[.pointer (some ⟨bs, 0, none⟩), .pointer (some ⟨bp, 0, none⟩)]] w3 fun e w' => e = .returned (.tuple #[]) ∧ Work w w' g n bs (vAddS n l xs c) := by
  have e0 : tab n (fun j => l.getD j 0) = l := by subst hl; exact tab_self l
  rw [← upto_zero n (fun j => l.getD j 0 ^^^ mulN (xs.getD j 0) c) (fun j => l.getD j 0) |>.trans e0] at hW
  refine (each_any (fun i wr => Work w wr g n bs (upto n (fun j => l.getD j 0 ^^^ mulN (xs.getD j 0) c) (fun j => l.getD j 0) i) ∧ Held wr bp (.func (.func 41) #[] #[.pointer (some ⟨p, 0, none⟩), .pointer (some ⟨p + 1, 0, none⟩)]) 53 ∧ Timing wr p c) 39 _ B n ca A xs w3 hn (enters_at Try.func39 (by kernel_rfl) rfl)
    (fun i wr _ hr => h.keep hB hr.1.keep) ⟨hW, hp, ht⟩ (fun i wr hi hr => ?_)).mono fun e w' he => ⟨he.1, by have := he.2.1; rwa [upto_all] at this⟩
  refine (combstep i (xs.getD i 0) c (l.getD i 0) bp p bs g n wr hr.2.1 hr.2.2 hr.1.held (hr.1.meets hi) (h.all.getD i) (hlb.getD i) hc hg hr.1.ne).mono ?_
  rintro e w' ⟨he, m, rfl⟩
  refine ⟨he, ?_, hr.2.1.step hg, (hr.2.2.setCell hgp hgp').drewN m⟩
  rw [← upto_set n _ _ i hi]
  exact hr.1.step (xor_lt (hlb.getD i) (mulN_lt _ (h.all.getD i)))
end
set_option maxRecDepth 100000 in
theorem vadd_any (B B' n ca cb : Nat) (A A' : Option Addr) (xs ys : List Nat) (w : World) (h : Bytes w B A n xs) (h' : Bytes w B' A' n ys) (hB : B ≤ w.heap.size) (hB' : B' ≤ w.heap.size) (hn : n ≤ 140737488351232) :
    Calls Try.prog 11 #[.slice A n ca, .slice A' n cb] w (NewPair w (vAdd n xs ys) 0) := by
  have b0 : ((n : Int) != (n : Int)) = false := by simp
  have hmk := run_make_bytes (P := Try.prog) Try.underlying22 info5 n (by omega)
  have HH := Lib.hid h
  have HH' := Lib.hid h'
  clear h h'
  go_enter Try.func11, Try.ntmps11
  go_wp2_with fail
  have hk := (Keep.refl w).alloc #[Value.slice A' n cb] 22
  have h1 := Work.start (n := n) (g := w.heap.size + 1) (by simp) hk (by omega)
  have h2 := ((Held.new (w := w) rfl (.slice A' n cb) 22).alloc (.cells (madeCells #[.int .u8 0] n) 5)).alloc (.cells #[.slice (some ⟨w.heap.size + 1, 0, none⟩) n n] 22)
  refine (add_each h1 h2 (by omega) HH.out HH'.out hB hB' hn).mono ?_
  rintro e w4 ⟨rfl, hW⟩
  have c1 := hW.held.cell
  have HW := Lib.hid hW
  clear hW hk h1 h2
  go_wp2_with fail
  go_ret2
  exact ⟨_, n, n, rfl, HW.out.own, HW.out.keep⟩
end Go.Proofs.Ytkinhhplhkbljaa
