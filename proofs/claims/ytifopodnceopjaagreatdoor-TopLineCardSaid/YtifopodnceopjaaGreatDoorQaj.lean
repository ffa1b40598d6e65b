/- The landed frames: a topology's form is laid. -/
import Derived.Test.YtifopodnceopjaaGreatDoorQai
import Derived.Great.BuildSlice
import Derived.RegionTactic
import Derived.Test.YtifopodnceopjaaGreatDoorQaa
import Derived.Deep.RegionHeld3
namespace Go.Proofs.YtifopodnceopjaaGreatDoor
open Go.RowKit Fr
set_option linter.unusedVariables false
set_option linter.unusedSimpArgs false
section
variable {w w' : World} {B n : Nat} {A : Option Addr}
theorem Turned.below {F : Nat → Prop} (k : Turned F w w') (hF : ∀ i, F i → B ≤ i) (hB : B ≤ w.heap.size) : Below B w w' :=
  ⟨k.os, k.tape, k.output, k.size, fun i hi => k.block i (by omega) (fun e => by have := hF i e; omega)⟩
theorem UpsAt.below {l : List Bool} (h : UpsAt w B A n l) (k : Below B w w') : UpsAt w' B A n l := ⟨h.1, fun hn => by
  obtain ⟨b, off, e, hb, hc⟩ := h.2 hn
  exact ⟨b, off, e, hb, fun i x hx => (k.cell (p := ⟨b, off + i, none⟩) hb).trans (hc i x hx)⟩⟩
theorem RanksAt.below {l : List (Nat × Int)} (h : RanksAt w B A n l) (k : Below B w w') : RanksAt w' B A n l := FieldsAt.below h k
theorem EdgesAt.below {l : List (Int × Int)} (h : EdgesAt w B A n l) (k : Below B w w') : EdgesAt w' B A n l := FieldsAt.below h k
theorem HopsAt.below {l : List (List (Int × Int))} (h : HopsAt w B A n l) (k : Below B w w') : HopsAt w' B A n l := by
  obtain ⟨S, h1, h2, h3, h4⟩ := h
  refine ⟨S, h1, h2, fun i s r hs hr => ⟨(h3 i s r hs hr).1.below k, (h3 i s r hs hr).2⟩, fun hn => ?_⟩
  obtain ⟨b, off, e, hb, hc⟩ := h4 hn
  exact ⟨b, off, e, hb, fun i s hs => (k.cell (p := ⟨b, off + i, none⟩) hb).trans (hc i s hs)⟩
end
/-- A literal of numbers, handed on to the closures. -/
theorem glay_ones (F : Nat → Prop) (g h n : Nat) (l xs : List Nat) (cs : Array Value) (hcs : cs = (l.map fun x : Nat => Value.int .i64 (x : Int)).toArray) (hn : l.length = n) (w : World) (hS : LayS w F g xs) (hh : ClosC w h g) (hnh : ¬ F h) (hv : ∀ x ∈ l, x < 256) (hx : xs.length + n ≤ 1000000) :
    Calls Tryz.prog 78 #[.slice (some ⟨w.heap.size, 0, none⟩) n n, .pointer (some ⟨h, 0, none⟩)] (w.alloc (.cells cs 3)) fun e w' => e = .returned (.tuple #[]) ∧ LayN F w w' g (xs ++ formsN 1 l) := by
  have k : Keep w (w.alloc (.cells cs 3)) := (Keep.refl w).alloc _ _
  have hlt := World.block_lt_of_cell? w _ hh
  refine (gone_any F g h w.heap.size n n l xs (w.alloc (.cells cs 3)) (hS.keep k) ((World.cell?_of_block (k.block h hlt)).trans hh) hnh (fun e => Nat.lt_irrefl _ (hS.2.1 _ e)) hn hv hx ?_).mono ?_
  · intro i x hi
    rw [cell_of_row _ _ _ _ _ _ (heap_alloc_new w _), hcs]
    simp [hi]
  · rintro e w' ⟨h1, h2⟩
    exact ⟨h1, h2.later k⟩
theorem glay_eights (F : Nat → Prop) (g h n : Nat) (l xs : List Nat) (cs : Array Value) (hcs : cs = (l.map fun x : Nat => Value.int .u64 (x : Int)).toArray) (hn : l.length = n) (w : World) (hS : LayS w F g xs) (hh : ClosC w h g) (hnh : ¬ F h) (hv : ∀ x ∈ l, x < 18446744073709551616) (hx : xs.length + 8 * n ≤ 1000000) :
    Calls Tryz.prog 79 #[.slice (some ⟨w.heap.size, 0, none⟩) n n, .pointer (some ⟨h, 0, none⟩)] (w.alloc (.cells cs 36)) fun e w' => e = .returned (.tuple #[]) ∧ LayN F w w' g (xs ++ formsN 8 l) := by
  have k : Keep w (w.alloc (.cells cs 36)) := (Keep.refl w).alloc _ _
  have hlt := World.block_lt_of_cell? w _ hh
  refine (geight_any F g h w.heap.size n n l xs (w.alloc (.cells cs 36)) (hS.keep k) ((World.cell?_of_block (k.block h hlt)).trans hh) hnh (fun e => Nat.lt_irrefl _ (hS.2.1 _ e)) hn hv hx ?_).mono ?_
  · intro i x hi
    rw [cell_of_row _ _ _ _ _ _ (heap_alloc_new w _), hcs]
    simp [hi]
  · rintro e w' ⟨h1, h2⟩
    exact ⟨h1, h2.later k⟩
theorem glay_one (F : Nat → Prop) (g h x : Nat) (xs : List Nat) (w : World) (hS : LayS w F g xs) (hh : ClosC w h g) (hnh : ¬ F h) (hv : x < 256) (hx : xs.length ≤ 900000) :
    Calls Tryz.prog 78 #[.slice (some ⟨w.heap.size, 0, none⟩) 1 1, .pointer (some ⟨h, 0, none⟩)] (w.alloc (.cells #[.int .i64 (x : Int)] 3)) fun e w' => e = .returned (.tuple #[]) ∧ LayN F w w' g (xs ++ formN 1 x) := by
  have h2 := glay_ones F g h 1 [x] xs #[.int .i64 (x : Int)] rfl rfl w hS hh hnh (by intro y hy; simp at hy; omega) (by omega)
  simpa [formsN] using h2
theorem glay_two (F : Nat → Prop) (g h x y : Nat) (xs : List Nat) (w : World) (hS : LayS w F g xs) (hh : ClosC w h g) (hnh : ¬ F h) (hv : x < 256) (hv2 : y < 256) (hx : xs.length ≤ 900000) :
    Calls Tryz.prog 78 #[.slice (some ⟨w.heap.size, 0, none⟩) 2 2, .pointer (some ⟨h, 0, none⟩)] (w.alloc (.cells #[.int .i64 (x : Int), .int .i64 (y : Int)] 3)) fun e w' => e = .returned (.tuple #[]) ∧ LayN F w w' g (xs ++ (formN 1 x ++ formN 1 y)) := by
  have h2 := glay_ones F g h 2 [x, y] xs #[.int .i64 (x : Int), .int .i64 (y : Int)] rfl rfl w hS hh hnh (by intro z hz; simp at hz; omega) (by omega)
  simpa [formsN] using h2
theorem glay_eight (F : Nat → Prop) (g h x : Nat) (xs : List Nat) (w : World) (hS : LayS w F g xs) (hh : ClosC w h g) (hnh : ¬ F h) (hv : x < 18446744073709551616) (hx : xs.length ≤ 900000) :
    Calls Tryz.prog 79 #[.slice (some ⟨w.heap.size, 0, none⟩) 1 1, .pointer (some ⟨h, 0, none⟩)] (w.alloc (.cells #[.int .u64 (x : Int)] 36)) fun e w' => e = .returned (.tuple #[]) ∧ LayN F w w' g (xs ++ formN 8 x) := by
  have h2 := glay_eights F g h 1 [x] xs #[.int .u64 (x : Int)] rfl rfl w hS hh hnh (by intro y hy; simp at hy; omega) (by omega)
  simpa [formsN] using h2
theorem glay_eight2 (F : Nat → Prop) (g h x y : Nat) (xs : List Nat) (w : World) (hS : LayS w F g xs) (hh : ClosC w h g) (hnh : ¬ F h) (hv : x < 18446744073709551616) (hv2 : y < 18446744073709551616) (hx : xs.length ≤ 900000) :
    Calls Tryz.prog 79 #[.slice (some ⟨w.heap.size, 0, none⟩) 2 2, .pointer (some ⟨h, 0, none⟩)] (w.alloc (.cells #[.int .u64 (x : Int), .int .u64 (y : Int)] 36)) fun e w' => e = .returned (.tuple #[]) ∧ LayN F w w' g (xs ++ (formN 8 x ++ formN 8 y)) := by
  have h2 := glay_eights F g h 2 [x, y] xs #[.int .u64 (x : Int), .int .u64 (y : Int)] rfl rfl w hS hh hnh (by intro z hz; simp at hz; omega) (by omega)
  simpa [formsN] using h2
theorem glay_three (F : Nat → Prop) (g h x y z : Nat) (xs : List Nat) (w : World) (hS : LayS w F g xs) (hh : ClosC w h g) (hnh : ¬ F h) (hv : x < 256) (hv2 : y < 256) (hv3 : z < 256) (hx : xs.length ≤ 900000) :
    Calls Tryz.prog 78 #[.slice (some ⟨w.heap.size, 0, none⟩) 3 3, .pointer (some ⟨h, 0, none⟩)] (w.alloc (.cells #[.int .i64 (x : Int), .int .i64 (y : Int), .int .i64 (z : Int)] 3)) fun e w' => e = .returned (.tuple #[]) ∧ LayN F w w' g (xs ++ (formN 1 x ++ (formN 1 y ++ formN 1 z))) := by
  have h2 := glay_ones F g h 3 [x, y, z] xs #[.int .i64 (x : Int), .int .i64 (y : Int), .int .i64 (z : Int)] rfl rfl w hS hh hnh (by intro u hu; simp at hu; omega) (by omega)
  simpa [formsN] using h2
/-- What goes on, with what it leaves: a state that a walk carries. -/
structure LayT (W : World) (F0 : Nat → Prop) (g h : Nat) (F : Nat → Prop) (w : World) (xs : List Nat) : Prop where
  st : LayS w F g xs
  tn : Turned F0 W w
  new : ∀ b, F b → F0 b ∨ W.heap.size ≤ b
theorem LayT.start {W : World} {F0 : Nat → Prop} {g h : Nat} {xs : List Nat} (hS : LayS W F0 g xs) : LayT W F0 g h F0 W xs := ⟨hS, Turned.refl _ _, fun b hb => Or.inl hb⟩
theorem LayT.clos {W w : World} {F0 F : Nat → Prop} {g h : Nat} {xs : List Nat} (t : LayT W F0 g h F w xs) (hh : ClosC W h g) (hn : ¬ F0 h) : ClosC w h g := t.tn.cell hh hn
theorem LayT.not {W w : World} {F0 F : Nat → Prop} {g h : Nat} {xs : List Nat} (t : LayT W F0 g h F w xs) {b : Nat} (hb : b < W.heap.size) (hn : ¬ F0 b) : ¬ F b := fun e => by
  rcases t.new b e with e | e
  · exact hn e
  · omega
theorem LayT.next {W w w' : World} {F0 F : Nat → Prop} {g h : Nat} {xs ys : List Nat} (t : LayT W F0 g h F w xs) (n : LayN F w w' g ys) : ∃ F', LayT W F0 g h F' w' ys := by
  obtain ⟨F', h1, h2, h3⟩ := LayN.trans t.tn t.new n
  exact ⟨F', h1, h2, h3⟩
theorem LayT.end_ {W w : World} {F0 F : Nat → Prop} {g h : Nat} {xs : List Nat} (t : LayT W F0 g h F w xs) : LayN F0 W w g xs := ⟨F, t.st, t.tn, t.new⟩
theorem LayT.keep {W w w' : World} {F0 F : Nat → Prop} {g h : Nat} {xs : List Nat} (t : LayT W F0 g h F w xs) (k : Keep w w') : LayT W F0 g h F w' xs :=
  ⟨t.st.keep k, t.tn.then_keep k, t.new⟩
end Go.Proofs.YtifopodnceopjaaGreatDoor
/- Frames plainly: ranks, place by place. -/
namespace Go.Proofs.YtifopodnceopjaaGreatDoor.Fr
/-- One rank's bounds. -/
def RkB (g : Nat) (r : Nat × Int) : Prop := g ≤ r.1 ∧ r.1 < g + 16 ∧ r.1 < 1099511627776 ∧ 1 ≤ r.2 ∧ r.2 ≤ 255
theorem rank_iff (g : Nat) : ∀ (p : Option Nat) (l : List (Nat × Int)), RankOk g p l ↔ ∀ j r, l[j]? = some r → RkB g r ∧ (match j, p with | 0, some q => q < r.1 | 0, none => True | j + 1, _ => ∀ x, l[j]? = some x → x.1 < r.1)
  | p, [] => ⟨fun _ j r h => by simp at h, fun _ => trivial⟩
  | p, a :: l => by
    constructor
    · rintro ⟨⟨h1, h2, h3, h4, h5, h6⟩, h7⟩ j r hr
      cases j with
      | zero =>
        simp at hr; subst hr
        refine ⟨⟨h1, h2, h3, h4, h5⟩, ?_⟩
        cases p with
        | none => trivial
        | some q => exact h6
      | succ j =>
        rw [List.getElem?_cons_succ] at hr
        obtain ⟨b, c⟩ := (rank_iff g (some a.1) l).1 h7 j r hr
        refine ⟨b, fun x hx => ?_⟩
        cases j with
        | zero => simp at hx; subst hx; exact c
        | succ j => rw [List.getElem?_cons_succ] at hx; exact c x hx
    · intro h
      refine ⟨?_, (rank_iff g (some a.1) l).2 fun j r hr => ?_⟩
      · obtain ⟨⟨h1, h2, h3, h4, h5⟩, c⟩ := h 0 a rfl
        refine ⟨h1, h2, h3, h4, h5, ?_⟩
        cases p with
        | none => trivial
        | some q => exact c
      · obtain ⟨b, c⟩ := h (j + 1) r (by rw [List.getElem?_cons_succ]; exact hr)
        refine ⟨b, ?_⟩
        cases j with
        | zero => exact c a rfl
        | succ j => exact fun x hx => c x (by rw [List.getElem?_cons_succ]; exact hx)
theorem ranks_iff (g : Nat) (l : List (Nat × Int)) : RankOk g none l ↔ ∀ j r, l[j]? = some r → RkB g r ∧ ∀ x, 0 < j → l[j - 1]? = some x → x.1 < r.1 := by
  rw [rank_iff]
  constructor
  · intro h j r hr
    obtain ⟨b, c⟩ := h j r hr
    refine ⟨b, fun x hj hx => ?_⟩
    obtain ⟨k, rfl⟩ : ∃ k, j = k + 1 := ⟨j - 1, by omega⟩
    rw [Nat.add_sub_cancel] at hx
    exact c x hx
  · intro h j r hr
    obtain ⟨b, c⟩ := h j r hr
    refine ⟨b, ?_⟩
    cases j with
    | zero => trivial
    | succ j => exact fun x hx => c x (by omega) (by rw [Nat.add_sub_cancel]; exact hx)
end Go.Proofs.YtifopodnceopjaaGreatDoor.Fr
/- The landed frames: may it be: numbers, ranks, topologies. -/
namespace Go.Proofs.YtifopodnceopjaaGreatDoor
open Go.RowKit Fr
set_option linter.unusedVariables false
set_option linter.unusedSimpArgs false
theorem gin_any (n a b : Int) (w : World) : Calls Tryz.prog 99 #[.int .i64 n, .int .i64 a, .int .i64 b] w fun e w' => e = .returned (.bool (decide (a ≤ n ∧ n ≤ b))) ∧ w = w' := by
  by_cases h1 : a ≤ n
  · have d1 : decide (a ≤ n) = true := decide_eq_true h1
    obtain ⟨q, hq⟩ : ∃ q, decide (n ≤ b) = q := ⟨_, rfl⟩
    have HR : Hid (decide (a ≤ n ∧ n ≤ b) = q) := by show _ = _; rw [← hq, Bool.decide_and, d1, Bool.true_and]
    clear h1
    go_enter Tryz.func99, Tryz.ntmps99
    go_wp2_with fail
    go_ret
    exact ⟨by rw [HR.out]; rfl, rfl⟩
  · have d1 : decide (a ≤ n) = false := decide_eq_false h1
    have HR : Hid (decide (a ≤ n ∧ n ≤ b) = false) := decide_eq_false fun e => h1 e.1
    clear h1
    go_enter Tryz.func99, Tryz.ntmps99
    go_wp2_with fail
    go_ret
    exact ⟨by rw [HR.out]; rfl, rfl⟩
theorem ginu_any (n a b : Int) (w : World) : Calls Tryz.prog 122 #[.int .u64 n, .int .u64 a, .int .u64 b] w fun e w' => e = .returned (.bool (decide (a ≤ n ∧ n ≤ b))) ∧ w = w' := by
  by_cases h1 : a ≤ n
  · have d1 : decide (a ≤ n) = true := decide_eq_true h1
    obtain ⟨q, hq⟩ : ∃ q, decide (n ≤ b) = q := ⟨_, rfl⟩
    have HR : Hid (decide (a ≤ n ∧ n ≤ b) = q) := by show _ = _; rw [← hq, Bool.decide_and, d1, Bool.true_and]
    clear h1
    go_enter Tryz.func122, Tryz.ntmps122
    go_wp2_with fail
    go_ret
    exact ⟨by rw [HR.out]; rfl, rfl⟩
  · have d1 : decide (a ≤ n) = false := decide_eq_false h1
    have HR : Hid (decide (a ≤ n ∧ n ≤ b) = false) := decide_eq_false fun e => h1 e.1
    clear h1
    go_enter Tryz.func122, Tryz.ntmps122
    go_wp2_with fail
    go_ret
    exact ⟨by rw [HR.out]; rfl, rfl⟩
theorem gcount_any (n : Nat) (w : World) : Calls Tryz.prog 100 #[.int .u64 (n : Int)] w fun e w' => e = .returned (.bool (decide (1 ≤ n ∧ n ≤ 1125899906842624))) ∧ w = w' := by
  have H := Lib.hid (ginu_any (n : Int) 1 1125899906842624)
  obtain ⟨q, hq⟩ : ∃ q, decide (1 ≤ n ∧ n ≤ 1125899906842624) = q := ⟨_, rfl⟩
  have e : decide ((1 : Int) ≤ (n : Int) ∧ (n : Int) ≤ 1125899906842624) = q := by rw [← hq, decide_eq_decide]; omega
  rw [hq]
  rw [e] at H
  clear hq e
  go_enter Tryz.func100, Tryz.ntmps100
  go_wp2_with fail
  refine (H.out _).mono ?_
  rintro e w2 ⟨rfl, rfl⟩
  go_wp2_with fail
  go_ret
  exact ⟨rfl, rfl⟩
theorem gflow_any (n : Int) (w : World) : Calls Tryz.prog 101 #[.int .i64 n] w fun e w' => e = .returned (.bool (decide (0 ≤ n ∧ n ≤ 3))) ∧ w = w' := by
  have H := Lib.hid (gin_any n 0 3)
  obtain ⟨q, hq⟩ : ∃ q, decide (0 ≤ n ∧ n ≤ 3) = q := ⟨_, rfl⟩
  rw [hq] at H ⊢
  clear hq
  go_enter Tryz.func101, Tryz.ntmps101
  go_wp2_with fail
  refine (H.out _).mono ?_
  rintro e w2 ⟨rfl, rfl⟩
  go_wp2_with fail
  go_ret
  exact ⟨rfl, rfl⟩
set_option maxRecDepth 100000 in
theorem grow_any (nc cc np cp : Nat) (Ac Ap : Option Addr) (w : World) : Calls Tryz.prog 102 #[.agg #[.slice Ac nc cc, .slice Ap np cp]] w fun e w' => e = .returned (.bool (decide ((1 ≤ nc ∧ nc ≤ 255) ∧ 1 ≤ np ∧ np ≤ 65535))) ∧ Keep w w' := by
  have H1 := Lib.hid (gin_any (nc : Int) 1 255)
  have H2 := Lib.hid (gin_any (np : Int) 1 65535)
  have e1 : decide ((1 : Int) ≤ (nc : Int) ∧ (nc : Int) ≤ 255) = decide (1 ≤ nc ∧ nc ≤ 255) := by rw [decide_eq_decide]; omega
  have e2 : decide ((1 : Int) ≤ (np : Int) ∧ (np : Int) ≤ 65535) = decide (1 ≤ np ∧ np ≤ 65535) := by rw [decide_eq_decide]; omega
  rw [e1] at H1
  rw [e2] at H2
  rw [Bool.decide_and]
  obtain ⟨a, ha⟩ : ∃ a, decide (1 ≤ nc ∧ nc ≤ 255) = a := ⟨_, rfl⟩
  obtain ⟨b, hb⟩ : ∃ a, decide (1 ≤ np ∧ np ≤ 65535) = a := ⟨_, rfl⟩
  rw [ha] at H1 ⊢
  rw [hb] at H2 ⊢
  clear ha hb e1 e2
  go_enter Tryz.func102, Tryz.ntmps102
  go_wp2_with fail
  refine (H1.out _).mono ?_
  rintro e w2 ⟨rfl, rfl⟩
  cases a with
  | false =>
    go_wp2_with fail
    go_ret
    exact ⟨rfl, (Keep.refl w).alloc _ _⟩
  | true =>
    go_wp2_with fail
    refine (H2.out _).mono ?_
    rintro e w3 ⟨rfl, rfl⟩
    go_wp2_with fail
    go_ret
    exact ⟨rfl, (Keep.refl w).alloc _ _⟩
end Go.Proofs.YtifopodnceopjaaGreatDoor
/- The landed frames: may ranks be, may a topology be. -/
namespace Go.Proofs.YtifopodnceopjaaGreatDoor
open Go.RowKit Fr
set_option linter.unusedVariables false
set_option linter.unusedSimpArgs false
theorem run_leastU (a b m : Nat) (A B : Int) (hA : A = (a : Int)) (hB : B = (b : Int)) (h : min a b = m) (w : World) : (Builtin.min_ #[36, 36] 36 #[.int .u64 A, .int .u64 B]).run Tryz.prog w = .ok (.int .u64 (m : Int)) w := by
  subst hA hB
  rw [run_min_int2]; congr 2; split <;> omega
set_option maxRecDepth 100000 in
set_option maxHeartbeats 4000000 in
theorem granks_any (B n c g : Nat) (A : Option Addr) (l : List (Nat × Int)) (w : World) (h : RanksAt w B A n l) (hB : B ≤ w.heap.size) (hn : n ≤ 140737488351232) (hg : g ≤ 1099511627776) (hb : ∀ r ∈ l, U64 r.1 ∧ I64 r.2) :
    Calls Tryz.prog 103 #[.int .u64 (g : Int), .slice A n c] w fun e w' => e = .returned (.bool (decide (RankOk g none l))) ∧ Keep w w' := by
  have l1 := h.length
  have H := Lib.hid h
  have HBD := Lib.hid hb
  obtain ⟨q, hq⟩ : ∃ q, decide (RankOk g none l) = q := ⟨_, rfl⟩
  rw [hq]
  have QN : Hid (¬ RankOk g none l → q = false) := fun e => by rw [← hq]; exact decide_eq_false e
  have QY : Hid (RankOk g none l → q = true) := fun e => by rw [← hq]; exact decide_eq_true e
  clear hq h hb
  by_cases h16 : n ≤ 16
  · have b1 : ¬ (16 : Int) < (n : Int) := by omega
    have b2 : IntKind.u64.wrap ((g : Int) + 16) = ((g + 16 : Nat) : Int) := by rw [IntWalk.u64_in _ (by omega)]; omega
    obtain ⟨en, hen⟩ : ∃ en : Nat, min (g + 16) 1099511627776 = en := ⟨_, rfl⟩
    have HEN : Hid (en ≤ g + 16 ∧ en ≤ 1099511627776 ∧ (en = g + 16 ∨ en = 1099511627776)) := by show _ ∧ _; omega
    have b3 := fun w => run_leastU (g + 16) 1099511627776 en ((g + 16 : Nat) : Int) 1099511627776 rfl rfl hen w
    obtain ⟨gq, hgq⟩ : ∃ gq : Int, ((g + 16 : Nat) : Int) = gq := ⟨_, rfl⟩
    rw [hgq] at b2 b3
    clear hen hgq
    go_enter Tryz.func103, Tryz.ntmps103
    go_wp2_with fail
    go_loopw [5, 18] (fun sv iv wr => ∃ (i le : Nat), i ≤ n ∧ iv = .int .i64 i ∧ sv = .int .u64 le ∧ g ≤ le ∧ le ≤ 1099511627776 ∧ (∀ j r, j < i → l[j]? = some r → RkB g r ∧ ∀ x, 0 < j → l[j - 1]? = some x → x.1 < r.1) ∧ (i = 0 → le = g) ∧ (∀ x, 0 < i → l[i - 1]? = some x → le = x.1 + 1) ∧ Keep w wr) (fun _ iv _ => n - (intOf iv).toNat)
    case atStart => exact ⟨0, g, by omega, rfl, rfl, by omega, hg, fun j r hj => by omega, fun _ => rfl, fun x hx => by omega, Keep.refl w⟩
    case round =>
      obtain ⟨i, le, hi, rfl, rfl, hle, hle2, hz, hs0, hs1, kp⟩ := hrel
      have HZ := Lib.hid hz
      have HS0 := Lib.hid hs0
      have HS1 := Lib.hid hs1
      have KP := Lib.hid kp
      have f1 : (0 : Int) ≤ (i : Int) := Int.natCast_nonneg _
      clear hz hs0 hs1
      by_cases hlt : i < n
      · have f2 : (i : Int) < (n : Int) := by omega
        obtain ⟨⟨rg, rr⟩, he⟩ := get_some l1 hlt
        obtain ⟨p, o, rfl, _, s1, s2⟩ := (H.out.keep hB kp).at_ he
        dsimp only at s1 s2
        have s2 : wr.cell? ⟨p, o + i * 2 + 1, none⟩ = some (.int .i64 rr) := s2
        have hbd := (HBD.out (rg, rr) (List.mem_of_getElem? he)).1
        unfold U64 at hbd
        dsimp only at hbd
        obtain ⟨w7, hw7⟩ : ∃ w7, wr.alloc (.cells #[.int .u64 (rg : Int), .int .i64 rr] 93) = w7 := ⟨_, rfl⟩
        obtain ⟨k7, m0, m1⟩ := two_box wr _ _ _ hw7
        obtain ⟨g7, hg7⟩ : ∃ g7, wr.heap.size = g7 := ⟨_, rfl⟩
        rw [hg7] at m0 m1
        have K7 : Hid (Keep w w7) := KP.out.trans k7
        have HE := Lib.hid he
        have HBAD : Hid (¬ (RkB g (rg, rr) ∧ ∀ x, 0 < i → l[i - 1]? = some x → x.1 < rg) → q = false) := fun e => QN.out fun hr => e ((ranks_iff g l).1 hr i (rg, rr) HE.out)
        have H5 := Lib.hid (gin_any rr 1 255)
        clear kp k7 he
        by_cases c1 : rg < le
        · have HN : Hid (q = false) := HBAD.out fun e => by
            rcases Nat.eq_zero_or_pos i with h0 | h0
            · have := HS0.out h0; have := e.1.1; dsimp only at this; omega
            · obtain ⟨x, hx⟩ := get_some (n := n) (i := i - 1) l1 (by omega)
              have h1 := HS1.out x h0 hx
              have h2 := e.2 x h0 hx
              omega
          have d1 : (rg : Int) < (le : Int) := by omega
          clear c1
          go_wp2_with fail
          go_ret
          exact ⟨by rw [HN.out]; rfl, K7.out⟩
        have d1 : ¬ (rg : Int) < (le : Int) := by omega
        by_cases c2 : en ≤ rg
        · have HN : Hid (q = false) := HBAD.out fun e => by
            have h1 := e.1.2.1
            have h2 := e.1.2.2.1
            dsimp only at h1 h2
            have := HEN.out
            omega
          have d2 : (en : Int) ≤ (rg : Int) := by omega
          clear c1 c2
          go_wp2_with fail
          go_ret
          exact ⟨by rw [HN.out]; rfl, K7.out⟩
        have d2 : ¬ (en : Int) ≤ (rg : Int) := by omega
        have hen := HEN.out
        by_cases c3 : 1 ≤ rr ∧ rr ≤ 255
        · have d3 : IntKind.u64.wrap ((rg : Int) + 1) = ((rg + 1 : Nat) : Int) := by rw [IntWalk.u64_in _ (by omega)]; omega
          rw [decide_eq_true c3] at H5
          have HZ2 : Hid (∀ j r, j < i + 1 → l[j]? = some r → RkB g r ∧ ∀ x, 0 < j → l[j - 1]? = some x → x.1 < r.1) := fun j r hj hjr => by
            rcases Nat.lt_or_ge j i with h1 | h1
            · exact HZ.out j r h1 hjr
            · obtain rfl : j = i := by omega
              have he := HE.out
              rw [he] at hjr
              injection hjr with hjr
              subst hjr
              refine ⟨⟨show g ≤ rg by omega, show rg < g + 16 by omega, show rg < 1099511627776 by omega, c3.1, c3.2⟩, fun x h0 hx => ?_⟩
              have := HS1.out x h0 hx
              show x.1 < rg
              omega
          have HSN : Hid (∀ x, 0 < i + 1 → l[i + 1 - 1]? = some x → rg + 1 = x.1 + 1) := fun x _ hx => by
            rw [Nat.add_sub_cancel, HE.out] at hx
            injection hx with hx
            rw [← hx]
          have hrl : g ≤ rg + 1 ∧ rg + 1 ≤ 1099511627776 := by omega
          clear c1 c2 c3 hen
          go_wp2_with fail
          refine (H5.out _).mono ?_
          rintro e w8 ⟨rfl, rfl⟩
          go_wp2_with fail
          go_roundw
          case rel => exact ⟨i + 1, rg + 1, by omega, by go_num, by first | rfl | go_num, hrl.1, hrl.2, HZ2.out, fun h0 => by omega, HSN.out, K7.out⟩
          case measure => simp [intOf]; omega
        · have HN : Hid (q = false) := HBAD.out fun e => c3 ⟨e.1.2.2.2.1, e.1.2.2.2.2⟩
          rw [decide_eq_false c3] at H5
          clear c1 c2 c3 hen
          go_wp2_with fail
          refine (H5.out _).mono ?_
          rintro e w8 ⟨rfl, rfl⟩
          go_wp2_with fail
          go_ret
          exact ⟨by rw [HN.out]; rfl, K7.out⟩
      · obtain rfl : i = n := by omega
        have HY : Hid (q = true) := QY.out ((ranks_iff g l).2 fun j r hjr => HZ.out j r (by
          rcases Nat.lt_or_ge j l.length with h1 | h1
          · omega
          · rw [List.getElem?_eq_none h1] at hjr; cases hjr) hjr)
        go_wp2_with fail
        go_ret
        exact ⟨by rw [HY.out]; rfl, KP.out⟩
  · have b1 : (16 : Int) < (n : Int) := by omega
    have HN : Hid (q = false) := QN.out fun e => by have := rank_few g l e; omega
    clear h16
    go_enter Tryz.func103, Tryz.ntmps103
    go_wp2_with fail
    go_ret
    exact ⟨by rw [HN.out]; rfl, Keep.refl _⟩
end Go.Proofs.YtifopodnceopjaaGreatDoor
/- The landed frames: may a topology be. -/
namespace Go.Proofs.YtifopodnceopjaaGreatDoor
open Go.RowKit Fr
set_option linter.unusedVariables false
set_option linter.unusedSimpArgs false
set_option maxRecDepth 100000 in
set_option maxHeartbeats 4000000 in
theorem gwrong_any (N gl : Nat) (ea eb : Int) (w : World) (hN : 1 ≤ N) (hN2 : N ≤ 64) (hc : w.cell? ⟨gl, 0, none⟩ = some (.int .i64 ((N - 1 : Nat) : Int))) :
    Calls Tryz.prog 123 #[.agg #[.int .i64 ea, .int .i64 eb], .pointer (some ⟨gl, 0, none⟩)] w fun e w' => e = .returned (.bool (decide (¬ EdgeOk N (ea, eb)))) ∧ Keep w w' := by
  have hlt : gl < w.heap.size := World.block_lt_of_cell? w _ hc
  obtain ⟨w2, hw2⟩ : ∃ w2, w.alloc (.cells #[.int .i64 ea, .int .i64 eb] 99) = w2 := ⟨_, rfl⟩
  obtain ⟨k2, m0, m1⟩ := two_box w _ _ _ hw2
  have c2 : w2.cell? ⟨gl, 0, none⟩ = some (.int .i64 ((N - 1 : Nat) : Int)) := (World.cell?_of_block (k2.block gl hlt)).trans hc
  obtain ⟨g2, hg2⟩ : ∃ g2, w.heap.size = g2 := ⟨_, rfl⟩
  rw [hg2] at m0 m1
  have H1 := Lib.hid (gin_any ea 0 ((N - 1 : Nat) : Int))
  have H2 := Lib.hid (gin_any eb 0 ((N - 1 : Nat) : Int))
  obtain ⟨q, hq⟩ : ∃ q, decide (¬ EdgeOk N (ea, eb)) = q := ⟨_, rfl⟩
  rw [hq]
  have QT : Hid (¬ EdgeOk N (ea, eb) → q = true) := fun e => by rw [← hq]; exact decide_eq_true e
  have QF : Hid (EdgeOk N (ea, eb) → q = false) := fun e => by rw [← hq]; exact decide_eq_false (fun h => h e)
  have K2 := Lib.hid k2
  obtain ⟨la, hla⟩ : ∃ la : Int, ((N - 1 : Nat) : Int) = la := ⟨_, rfl⟩
  rw [hla] at c2 H1 H2
  have HLA : Hid (la = (N : Int) - 1) := by show _ = _; omega
  clear hq hc k2 hlt hla
  by_cases c1 : 0 ≤ ea ∧ ea ≤ la
  · rw [decide_eq_true c1] at H1
    by_cases c3 : 0 ≤ eb ∧ eb ≤ la
    · rw [decide_eq_true c3] at H2
      obtain ⟨v, hv⟩ : ∃ v, (ea == eb) = v := ⟨_, rfl⟩
      have HV : Hid (q = v) := by
        have e1 := HLA.out
        by_cases h : ea = eb
        · have hv2 : v = true := by rw [← hv]; simp [h]
          rw [hv2]
          exact QT.out fun e => e.2.2.2.2 h
        · have hv2 : v = false := by rw [← hv]; exact beq_eq_false_iff_ne.2 h
          rw [hv2]
          exact QF.out ⟨c1.1, show ea < (N : Int) by omega, c3.1, show eb < (N : Int) by omega, h⟩
      clear c1 c3
      go_enter Tryz.func123, Tryz.ntmps123
      go_wp2_with fail
      refine (H1.out _).mono ?_
      rintro e w3 ⟨rfl, rfl⟩
      go_wp2_with fail
      refine (H2.out _).mono ?_
      rintro e w3 ⟨rfl, rfl⟩
      go_wp2_with fail
      go_ret
      exact ⟨by rw [HV.out]; rfl, K2.out⟩
    · have HT : Hid (q = true) := QT.out fun e => c3 ⟨e.2.2.1, by have := e.2.2.2.1; have := HLA.out; dsimp only at *; omega⟩
      rw [decide_eq_false c3] at H2
      clear c1 c3
      go_enter Tryz.func123, Tryz.ntmps123
      go_wp2_with fail
      refine (H1.out _).mono ?_
      rintro e w3 ⟨rfl, rfl⟩
      go_wp2_with fail
      refine (H2.out _).mono ?_
      rintro e w3 ⟨rfl, rfl⟩
      go_wp2_with fail
      go_ret
      exact ⟨by rw [HT.out]; rfl, K2.out⟩
  · have HT : Hid (q = true) := QT.out fun e => c1 ⟨e.1, by have := e.2.1; have := HLA.out; dsimp only at *; omega⟩
    rw [decide_eq_false c1] at H1
    clear c1
    go_enter Tryz.func123, Tryz.ntmps123
    go_wp2_with fail
    refine (H1.out _).mono ?_
    rintro e w3 ⟨rfl, rfl⟩
    go_wp2_with fail
    go_ret
    exact ⟨by rw [HT.out]; rfl, K2.out⟩
set_option maxRecDepth 100000 in
set_option maxHeartbeats 4000000 in
theorem gindex_any (B N gl n c : Nat) (A : Option Addr) (r : List (Int × Int)) (w : World) (h : EdgesAt w B A n r) (hB : B ≤ w.heap.size) (hN : 1 ≤ N) (hN2 : N ≤ 64) (hn : n ≤ 140737488351232) (hc : w.cell? ⟨gl, 0, none⟩ = some (.int .i64 ((N - 1 : Nat) : Int))) :
    Calls Tryz.prog 130 #[.slice A n c, .func (.func 123) #[] #[.pointer (some ⟨gl, 0, none⟩)]] w fun e w' => ∃ v : Int, e = .returned (.int .i64 v) ∧ (v < 0 ↔ ∀ e ∈ r, EdgeOk N e) ∧ Keep w w' := by
  have l1 := h.length
  have H := Lib.hid h
  have hlt : gl < w.heap.size := World.block_lt_of_cell? w _ hc
  have HCW : Hid (∀ wr, Keep w wr → ∀ ea eb, Calls Tryz.prog 123 #[.agg #[.int .i64 ea, .int .i64 eb], .pointer (some ⟨gl, 0, none⟩)] wr fun e w' => e = .returned (.bool (decide (¬ EdgeOk N (ea, eb)))) ∧ Keep wr w') := fun wr kr ea eb =>
    gwrong_any N gl ea eb wr hN hN2 ((World.cell?_of_block (kr.block gl hlt)).trans hc)
  clear h hc hlt
  go_enter Tryz.func130, Tryz.ntmps130
  go_wp2_with fail
  go_loopw [8] (fun iv wr => ∃ i : Nat, i ≤ n ∧ iv = .int .i64 i ∧ Keep w wr ∧ ∀ j e, j < i → r[j]? = some e → EdgeOk N e) (fun iv _ => n - (intOf iv).toNat)
  case atStart => exact ⟨0, by omega, rfl, Keep.refl w, fun j e hj => by omega⟩
  case round =>
    obtain ⟨i, hi, rfl, kp, hz⟩ := hrel
    have HZ := Lib.hid hz
    have KP := Lib.hid kp
    have f1 : (0 : Int) ≤ (i : Int) := Int.natCast_nonneg _
    clear hz
    by_cases hl : i < n
    · have f2 : (i : Int) < (n : Int) := by omega
      obtain ⟨⟨ea, eb⟩, he⟩ := get_some l1 hl
      obtain ⟨p, o, rfl, _, s1, s2⟩ := (H.out.keep hB kp).at_ he
      dsimp only at s1 s2
      have s2 : wr.cell? ⟨p, o + i * 2 + 1, none⟩ = some (.int .i64 eb) := s2
      have HC := Lib.hid (HCW.out wr kp ea eb)
      by_cases ok : EdgeOk N (ea, eb)
      · rw [decide_eq_false (fun h => h ok)] at HC
        have HS : Hid (∀ j e, j < i + 1 → r[j]? = some e → EdgeOk N e) := fun j e hj hje => by
          rcases Nat.lt_or_ge j i with h1 | h1
          · exact HZ.out j e h1 hje
          · obtain rfl : j = i := by omega
            rw [he] at hje
            injection hje with hje
            subst hje
            exact ok
        clear kp he ok
        go_wp2_with fail
        refine HC.out.mono ?_
        rintro e w2 ⟨rfl, k2⟩
        have K2 : Hid (Keep w w2) := KP.out.trans k2
        clear k2
        go_wp2_with fail
        go_roundw
        case rel => exact ⟨i + 1, by omega, by go_num, K2.out, HS.out⟩
        case measure => simp [intOf]; omega
      · rw [decide_eq_true ok] at HC
        have HF : Hid (¬ ∀ e ∈ r, EdgeOk N e) := fun h => ok (h _ (List.mem_of_getElem? he))
        clear kp he ok
        go_wp2_with fail
        refine HC.out.mono ?_
        rintro e w2 ⟨rfl, k2⟩
        have K2 : Hid (Keep w w2) := KP.out.trans k2
        clear k2
        go_wp2_with fail
        go_ret
        exact ⟨(i : Int), rfl, ⟨fun h => by omega, fun h => absurd h HF.out⟩, K2.out⟩
    · obtain rfl : i = n := by omega
      have HA : Hid (∀ e ∈ r, EdgeOk N e) := fun e he => by
        obtain ⟨x, hx, rfl⟩ := List.mem_iff_getElem.1 he
        exact HZ.out x _ (by omega) (List.getElem?_eq_getElem hx)
      clear kp
      go_wp2_with fail
      go_ret
      exact ⟨-1, rfl, ⟨fun _ => HA.out, fun _ => by decide⟩, KP.out⟩
theorem gcontains_any (B N gl n c : Nat) (A : Option Addr) (r : List (Int × Int)) (w : World) (h : EdgesAt w B A n r) (hB : B ≤ w.heap.size) (hN : 1 ≤ N) (hN2 : N ≤ 64) (hn : n ≤ 140737488351232) (hc : w.cell? ⟨gl, 0, none⟩ = some (.int .i64 ((N - 1 : Nat) : Int))) :
    Calls Tryz.prog 124 #[.slice A n c, .func (.func 123) #[] #[.pointer (some ⟨gl, 0, none⟩)]] w fun e w' => ∃ q : Bool, e = .returned (.bool q) ∧ (q = false ↔ ∀ e ∈ r, EdgeOk N e) ∧ Keep w w' := by
  have HI := Lib.hid (gindex_any B N gl n c A r w h hB hN hN2 hn hc)
  clear h hc
  go_enter Tryz.func124, Tryz.ntmps124
  go_wp2_with fail
  refine HI.out.mono ?_
  rintro e w2 ⟨v, rfl, hv, k2⟩
  have HV := Lib.hid hv
  have K2 := Lib.hid k2
  clear hv k2
  go_wp2_with fail
  go_ret
  exact ⟨_, rfl, by rw [← HV.out]; simp, K2.out⟩
end Go.Proofs.YtifopodnceopjaaGreatDoor
/- The landed frames: mayTopo. -/
namespace Go.Proofs.YtifopodnceopjaaGreatDoor
open Go.RowKit Fr
set_option linter.unusedVariables false
set_option linter.unusedSimpArgs false
set_option maxRecDepth 100000 in
set_option maxHeartbeats 4000000 in
theorem gmayto_any (te : Nat) (u h : SlV) (up : List Bool) (hp : List (List (Int × Int))) (w : World) (hU : UpsAt w w.heap.size u.A u.n up) (hH : HopsAt w w.heap.size h.A h.n hp) (ok1 : u.ok) (ok2 : h.ok) :
    Calls Tryz.prog 104 #[.agg (topoCells te u h)] w fun e w' => e = .returned (.bool (decide (TopoOk te up hp))) ∧ Keep w w' := by
  obtain ⟨Au, nu, cu⟩ := u
  obtain ⟨Ah, nh, ch⟩ := h
  obtain ⟨o1, p1⟩ := ok1
  obtain ⟨o2, p2⟩ := ok2
  dsimp only at *
  obtain ⟨w2, hw2⟩ : ∃ w2, w.alloc (.cells (topoCells te ⟨Au, nu, cu⟩ ⟨Ah, nh, ch⟩) 50) = w2 := ⟨_, rfl⟩
  obtain ⟨k2, hbox⟩ := to_box w _ te _ _ hw2
  simp only [topoCells] at hw2
  obtain ⟨g, hg⟩ : ∃ g, w.heap.size = g := ⟨_, rfl⟩
  rw [hg] at hbox
  obtain ⟨x1, x2, x3⟩ := hbox w2 (Keep.refl w2)
  dsimp only at x2 x3
  have K2 := Lib.hid k2
  have HBOX := Lib.hid hbox
  have l1 := hU.length
  have l3 := hH.length
  have HH := Lib.hid hH
  clear k2 hbox hU hH
  simp only [topoCells]
  obtain ⟨q, hq⟩ : ∃ q, decide (TopoOk te up hp) = q := ⟨_, rfl⟩
  rw [hq]
  have QN : Hid (¬ TopoOk te up hp → q = false) := fun e => by rw [← hq]; exact decide_eq_false e
  have QY : Hid (TopoOk te up hp → q = true) := fun e => by rw [← hq]; exact decide_eq_true e
  have H1 := Lib.hid (gcount_any te)
  have H2 := Lib.hid (gin_any (nu : Int) 1 64)
  have H3 := Lib.hid (gin_any (nh : Int) 1 4)
  clear hq
  by_cases c1 : 1 ≤ te ∧ te ≤ 1125899906842624
  · rw [decide_eq_true c1] at H1
    by_cases c2 : (1 : Int) ≤ (nu : Int) ∧ (nu : Int) ≤ 64
    · rw [decide_eq_true c2] at H2
      by_cases c3 : (1 : Int) ≤ (nh : Int) ∧ (nh : Int) ≤ 4
      · rw [decide_eq_true c3] at H3
        have a1 : IntKind.i64.wrap ((nu : Int) - 1) = ((nu - 1 : Nat) : Int) := by rw [IntWalk.i64_in _ (by omega)]; omega
        have n1 : 1 ≤ nu ∧ nu ≤ 64 ∧ 1 ≤ nh ∧ nh ≤ 4 := by omega
        obtain ⟨n1, n2, n3, n4⟩ := n1
        have C1 := Lib.hid c1
        obtain ⟨w3, hw3⟩ : ∃ w3, w2.alloc (.cells #[.int .i64 ((nu - 1 : Nat) : Int)] 3) = w3 := ⟨_, rfl⟩
        have k3 : Keep w2 w3 := by rw [← hw3]; exact (Keep.refl w2).alloc _ _
        obtain ⟨g3, hg3⟩ : ∃ g3, w2.heap.size = g3 := ⟨_, rfl⟩
        have cl3 : w3.cell? ⟨g3, 0, none⟩ = some (.int .i64 ((nu - 1 : Nat) : Int)) := by
          have := heap_alloc_new w2 (.cells #[.int .i64 ((nu - 1 : Nat) : Int)] 3)
          rw [hw3, hg3] at this
          exact cell_of_one this
        have hlt3 : g3 < w3.heap.size := World.block_lt_of_cell? w3 _ cl3
        obtain ⟨_, x2', x3'⟩ := HBOX.out w3 k3
        dsimp only at x2' x3'
        have CL3 : Hid (∀ wr, Keep w3 wr → wr.cell? ⟨g3, 0, none⟩ = some (.int .i64 ((nu - 1 : Nat) : Int))) := fun wr kr => (World.cell?_of_block (kr.block g3 hlt3)).trans cl3
        have K3 : Hid (Keep w w3) := K2.out.trans k3
        have K23 := Lib.hid k3
        have HW3 := Lib.hid hw3
        have HG3 := Lib.hid hg3
        obtain ⟨nl, hnl⟩ : ∃ nl : Int, ((nu - 1 : Nat) : Int) = nl := ⟨_, rfl⟩
        have HNL := Lib.hid hnl
        rw [hnl] at a1 hw3
        clear c1 c2 c3 k3 cl3 hlt3 hnl
        go_enter Tryz.func104, Tryz.ntmps104
        go_wp2_with fail
        refine (H1.out _).mono ?_
        rintro e w4 ⟨rfl, rfl⟩
        go_wp2_with fail
        refine (H2.out _).mono ?_
        rintro e w4 ⟨rfl, rfl⟩
        go_wp2_with fail
        refine (H3.out _).mono ?_
        rintro e w4 ⟨rfl, rfl⟩
        go_wp2_with fail
        clear x1 x2 x3 x2' x3' hw3 hg3 a1
        go_loopw [33] (fun iv wr => ∃ i : Nat, i ≤ nh ∧ iv = .int .i64 i ∧ (∀ j l, j < i → hp[j]? = some l → l.length ≤ 128 ∧ ∀ e ∈ l, EdgeOk nu e) ∧ Keep w3 wr) (fun iv _ => nh - (intOf iv).toNat)
        case atStart => exact ⟨0, by omega, rfl, fun j l hj => by omega, by first | exact Keep.refl w3 | (rw [← HW3.out, HNL.out]; exact Keep.refl _)⟩
        case round =>
          obtain ⟨i, hi, rfl, hz, kp⟩ := hrel
          obtain ⟨_, _, x3⟩ := HBOX.out wr (K23.out.trans kp)
          dsimp only at x3
          have HZ := Lib.hid hz
          have KP := Lib.hid kp
          clear hz
          have f1 : (0 : Int) ≤ (i : Int) := Int.natCast_nonneg _
          by_cases hlt : i < nh
          · have f2 : (i : Int) < (nh : Int) := by omega
            obtain ⟨r, hr⟩ := get_some l3 hlt
            obtain ⟨b, off, ⟨As, ns, cs⟩, rfl, hbl, hc, hE, hs1, hs2⟩ := (HH.out.keep (Nat.le_refl _) (K3.out.trans kp)).at_ hr
            dsimp only at hc hE hs1 hs2
            have q1 := hE.length
            have HCN := Lib.hid (gcontains_any w.heap.size nu g3 ns cs As r wr hE (K3.out.trans kp).size n1 n2 hs1 (CL3.out wr kp))
            have KE : Hid (Keep w wr) := K3.out.trans kp
            by_cases hab : ns ≤ 128
            · have b1 : ¬ (128 : Int) < (ns : Int) := by omega
              have HS : Hid ((∀ e ∈ r, EdgeOk nu e) → ∀ j l, j < i + 1 → hp[j]? = some l → l.length ≤ 128 ∧ ∀ e ∈ l, EdgeOk nu e) := fun ha j l hj hjl => by
                rcases Nat.lt_or_ge j i with h1 | h1
                · exact HZ.out j l h1 hjl
                · obtain rfl : j = i := by omega
                  rw [hr] at hjl
                  injection hjl with hjl
                  subst hjl
                  exact ⟨by omega, ha⟩
              have HB : Hid ((¬ ∀ e ∈ r, EdgeOk nu e) → q = false) := fun hn => QN.out fun e => hn (by
                have h2 := (e.2.2.2.2.2.2 r (List.mem_of_getElem? hr)).2
                rw [l1] at h2
                exact h2)
              clear hr hE kp hab
              go_wp2_with fail
              refine HCN.out.mono ?_
              rintro e w5 ⟨v, rfl, hv, k5⟩
              have K5 : Hid (Keep w3 w5) := KP.out.trans k5
              have K5' : Hid (Keep w w5) := KE.out.trans k5
              have HV := Lib.hid hv
              clear hv k5 hc
              cases v with
              | false =>
                have HS2 := Lib.hid (HS.out (HV.out.1 rfl))
                go_wp2_with fail
                go_roundw
                case rel => exact ⟨i + 1, by omega, by go_num, HS2.out, K5.out⟩
                case measure => simp [intOf]; omega
              | true =>
                have HN : Hid (q = false) := HB.out fun h => by cases HV.out.2 h
                go_wp2_with fail
                go_ret
                exact ⟨by rw [HN.out]; rfl, K5'.out⟩
            · have HN : Hid (q = false) := QN.out fun e => by
                have := (e.2.2.2.2.2.2 r (List.mem_of_getElem? hr)).1
                omega
              have b1 : (128 : Int) < (ns : Int) := by omega
              clear hr hE kp hab
              go_wp2_with fail
              go_ret
              exact ⟨by rw [HN.out]; rfl, KE.out⟩
          · obtain rfl : i = nh := by omega
            have HY : Hid (q = true) := QY.out ⟨C1.out.1, C1.out.2, by omega, by omega, by omega, by omega, fun l hl => by
              obtain ⟨x, hx, rfl⟩ := List.mem_iff_getElem.1 hl
              rw [l1]
              exact HZ.out x _ (by omega) (List.getElem?_eq_getElem hx)⟩
            have KE : Hid (Keep w wr) := K3.out.trans kp
            clear kp
            go_wp2_with fail
            go_ret
            exact ⟨by rw [HY.out]; rfl, KE.out⟩
      · rw [decide_eq_false c3] at H3
        have HN : Hid (q = false) := QN.out fun e => c3 (by have h1 := e.2.2.2.2.1; have h2 := e.2.2.2.2.2.1; omega)
        clear c1 c2 c3
        go_enter Tryz.func104, Tryz.ntmps104
        go_wp2_with fail
        refine (H1.out _).mono ?_
        rintro e w4 ⟨rfl, rfl⟩
        go_wp2_with fail
        refine (H2.out _).mono ?_
        rintro e w4 ⟨rfl, rfl⟩
        go_wp2_with fail
        refine (H3.out _).mono ?_
        rintro e w4 ⟨rfl, rfl⟩
        go_wp2_with fail
        go_ret
        exact ⟨by rw [HN.out]; rfl, K2.out⟩
    · rw [decide_eq_false c2] at H2
      have HN : Hid (q = false) := QN.out fun e => c2 (by have h1 := e.2.2.1; have h2 := e.2.2.2.1; omega)
      clear c1 c2
      go_enter Tryz.func104, Tryz.ntmps104
      go_wp2_with fail
      refine (H1.out _).mono ?_
      rintro e w4 ⟨rfl, rfl⟩
      go_wp2_with fail
      refine (H2.out _).mono ?_
      rintro e w4 ⟨rfl, rfl⟩
      go_wp2_with fail
      go_ret
      exact ⟨by rw [HN.out]; rfl, K2.out⟩
  · rw [decide_eq_false c1] at H1
    have HN : Hid (q = false) := QN.out fun e => c1 ⟨e.1, e.2.1⟩
    clear c1
    go_enter Tryz.func104, Tryz.ntmps104
    go_wp2_with fail
    refine (H1.out _).mono ?_
    rintro e w4 ⟨rfl, rfl⟩
    go_wp2_with fail
    go_ret
    exact ⟨by rw [HN.out]; rfl, K2.out⟩
end Go.Proofs.YtifopodnceopjaaGreatDoor
/- The landed frames: mayGo, mayHave. -/
namespace Go.Proofs.YtifopodnceopjaaGreatDoor
open Go.RowKit Fr
set_option linter.unusedVariables false
set_option linter.unusedSimpArgs false
/-- May it go so. -/
def GoOk (f : FrV) : Prop := (0 ≤ f.src ∧ f.src ≤ 63) ∧ (0 ≤ f.dst ∧ f.dst ≤ 63) ∧ f.ep ≤ 1125899906842624 ∧ (if f.kind = 5 then f.src = f.dst ∧ f.life = 0 else f.src ≠ f.dst ∧ 1 ≤ f.life ∧ f.life ≤ 1125899906842624)
instance (f : FrV) : Decidable (GoOk f) := inferInstanceAs (Decidable (_ ∧ _))
/-- Is what its Kind has within bounds. -/
def HaveOk (f : FrV) : Prop :=
  if f.kind = 1 then (0 ≤ f.flow ∧ f.flow ≤ 3) ∧ f.gen < 1099511627776 ∧ (1 ≤ f.seq ∧ f.seq ≤ 1125899906842624) ∧ (1 ≤ f.co.length ∧ f.co.length ≤ 255) ∧ 1 ≤ f.pay.length ∧ f.pay.length ≤ 65535
  else if f.kind = 2 then (0 ≤ f.flow ∧ f.flow ≤ 3) ∧ f.gen ≤ 1099511627776 ∧ (1 ≤ f.seq ∧ f.seq ≤ 1125899906842624) ∧ RankOk f.gen none f.ranks
  else if f.kind = 3 then f.seq ≤ 1125899906842624 ∧ (1 ≤ f.ford ∧ f.ford ≤ 1125899906842624)
  else if f.kind = 4 then f.seq ≤ 1125899906842624
  else if f.kind = 5 then TopoOk f.tep f.up f.hops
  else if f.kind = 6 then (0 ≤ f.flow ∧ f.flow ≤ 3) ∧ f.gen ≤ 1099511627776
  else False
instance (f : FrV) : Decidable (HaveOk f) := by
  unfold HaveOk
  exact inferInstance
/-- It may be, if it may go so, has what it may, and has nothing else. -/
theorem may_iff (f : FrV) : MayF f ↔ GoOk f ∧ HaveOk f ∧ f = bareF f := by
  constructor
  · intro h
    refine ⟨⟨⟨h.s0, h.s63⟩, ⟨h.d0, h.d63⟩, h.ep, ?_⟩, ?_, h.bare.symm⟩
    · split
      · rename_i e; exact ⟨(h.member e).1, (h.member e).2.1⟩
      · rename_i e; exact ⟨(h.other e).1, (h.other e).2.1, h.life⟩
    · unfold HaveOk
      have k1 := h.k1
      have k6 := h.k6
      split
      · rename_i e
        obtain ⟨a1, a2, a3, a4, a5, a6, a7⟩ := h.other (by omega)
        obtain ⟨b1, b2, b3, b4, b5, b6⟩ := h.data e
        exact ⟨⟨a3, a4⟩, b1, ⟨b2, a5⟩, ⟨b3, by omega⟩, b5, by omega⟩
      split
      · rename_i e
        obtain ⟨a1, a2, a3, a4, a5, a6, a7⟩ := h.other (by omega)
        obtain ⟨b1, b2⟩ := h.feed e
        exact ⟨⟨a3, a4⟩, a7, ⟨b2, a5⟩, b1⟩
      split
      · rename_i e
        obtain ⟨a1, a2, a3, a4, a5, a6, a7⟩ := h.other (by omega)
        exact ⟨a5, h.cred e, a6⟩
      split
      · rename_i e
        obtain ⟨a1, a2, a3, a4, a5, a6, a7⟩ := h.other (by omega)
        exact a5
      split
      · rename_i e
        exact (h.member e).2.2
      split
      · rename_i e
        obtain ⟨a1, a2, a3, a4, a5, a6, a7⟩ := h.other (by omega)
        exact ⟨⟨a3, a4⟩, a7⟩
      · omega
  · rintro ⟨⟨⟨s0, s63⟩, ⟨d0, d63⟩, ep, hg⟩, hh, hb⟩
    obtain ⟨k, s, d, ep', lf, fl, gn, sq, fo, co, pay, rk, te, up, hp⟩ := f
    unfold HaveOk at hh
    unfold bareF at hb
    dsimp only at *
    injection hb with z0 z1 z2 z3 z4 z5 z6 z7 z8 z9 z10 z11 z12 z13 z14
    have hk : k = 1 ∨ k = 2 ∨ k = 3 ∨ k = 4 ∨ k = 5 ∨ k = 6 := by
      refine Classical.byContradiction fun hn => ?_
      rw [if_neg (by omega), if_neg (by omega), if_neg (by omega), if_neg (by omega), if_neg (by omega), if_neg (by omega)] at hh
      exact hh
    rcases hk with rfl | rfl | rfl | rfl | rfl | rfl
    all_goals simp only [show ((1 : Int) = 5) = False by decide, show ((2 : Int) = 5) = False by decide, show ((3 : Int) = 5) = False by decide, show ((4 : Int) = 5) = False by decide, show ((6 : Int) = 5) = False by decide, if_false, if_true, reduceIte] at hg
    all_goals simp only [Int.reduceEq, reduceIte, if_false, if_true, Int.reduceLE, false_or, or_false, true_or, or_true, and_true, true_and, and_false] at hh z5 z6 z7 z8 z9 z10 z11 z12 z13 z14
    · exact ⟨by dsimp only; decide, by dsimp only; decide, s0, s63, d0, d63, ep, hg.2.2, by unfold bareF; simp [*], fun e => absurd e (by dsimp only; decide), fun _ => ⟨hg.1, hg.2.1, hh.1.1, hh.1.2, hh.2.2.1.2, by show fo ≤ _; omega, by show gn ≤ _; omega⟩, fun _ => ⟨hh.2.1, hh.2.2.1.1, hh.2.2.2.1.1, by have := hh.2.2.2.1.2; show co.length < 256; omega, hh.2.2.2.2.1, by have := hh.2.2.2.2.2; show pay.length < 65536; omega⟩, fun e => absurd e (by dsimp only; decide), fun e => absurd e (by dsimp only; decide)⟩
    · exact ⟨by dsimp only; decide, by dsimp only; decide, s0, s63, d0, d63, ep, hg.2.2, by unfold bareF; simp [*], fun e => absurd e (by dsimp only; decide), fun _ => ⟨hg.1, hg.2.1, hh.1.1, hh.1.2, hh.2.2.1.2, by show fo ≤ _; omega, hh.2.1⟩, fun e => absurd e (by dsimp only; decide), fun _ => ⟨hh.2.2.2, hh.2.2.1.1⟩, fun e => absurd e (by dsimp only; decide)⟩
    · exact ⟨by dsimp only; decide, by dsimp only; decide, s0, s63, d0, d63, ep, hg.2.2, by unfold bareF; simp [*], fun e => absurd e (by dsimp only; decide), fun _ => ⟨hg.1, hg.2.1, by show 0 ≤ fl; omega, by show fl ≤ 3; omega, hh.1, hh.2.2, by show gn ≤ _; omega⟩, fun e => absurd e (by dsimp only; decide), fun e => absurd e (by dsimp only; decide), fun _ => hh.2.1⟩
    · exact ⟨by dsimp only; decide, by dsimp only; decide, s0, s63, d0, d63, ep, hg.2.2, by unfold bareF; simp [*], fun e => absurd e (by dsimp only; decide), fun _ => ⟨hg.1, hg.2.1, by show 0 ≤ fl; omega, by show fl ≤ 3; omega, hh, by show fo ≤ _; omega, by show gn ≤ _; omega⟩, fun e => absurd e (by dsimp only; decide), fun e => absurd e (by dsimp only; decide), fun e => absurd e (by dsimp only; decide)⟩
    · exact ⟨by dsimp only; decide, by dsimp only; decide, s0, s63, d0, d63, ep, by show lf ≤ _; omega, by unfold bareF; simp [*], fun _ => ⟨hg.1, hg.2, hh⟩, fun e => absurd rfl e, fun e => absurd e (by dsimp only; decide), fun e => absurd e (by dsimp only; decide), fun e => absurd e (by dsimp only; decide)⟩
    · exact ⟨by dsimp only; decide, by dsimp only; decide, s0, s63, d0, d63, ep, hg.2.2, by unfold bareF; simp [*], fun e => absurd e (by dsimp only; decide), fun _ => ⟨hg.1, hg.2.1, hh.1.1, hh.1.2, by show sq ≤ _; omega, by show fo ≤ _; omega, hh.2⟩, fun e => absurd e (by dsimp only; decide), fun e => absurd e (by dsimp only; decide), fun e => absurd e (by dsimp only; decide)⟩
set_option maxRecDepth 100000 in
set_option maxHeartbeats 4000000 in
theorem gmaygo_any (m : FrM) (f : FrV) (w : World) :
    Calls Tryz.prog 70 #[.agg (frCells m f)] w fun e w' => e = .returned (.bool (decide (GoOk f))) ∧ Keep w w' := by
  obtain ⟨w2, hw2⟩ : ∃ w2, w.alloc (.cells (frCells m f) 52) = w2 := ⟨_, rfl⟩
  obtain ⟨k2, hbox⟩ := fr_box w _ m f hw2
  obtain ⟨g, hg⟩ : ∃ g, w.heap.size = g := ⟨_, rfl⟩
  obtain ⟨q, hq⟩ : ∃ q, decide (GoOk f) = q := ⟨_, rfl⟩
  rw [hq]
  have QN : Hid (¬ GoOk f → q = false) := fun e => by rw [← hq]; exact decide_eq_false e
  have QY : Hid (GoOk f → q = true) := fun e => by rw [← hq]; exact decide_eq_true e
  clear hq
  obtain ⟨k, s, d, ep, lf, fl, gn, sq, fo, co, pay, rk, te, up, hp⟩ := f
  obtain ⟨⟨Ac, nc, cc⟩, ⟨Ap, np, cp⟩, ⟨Ar, nr, cr⟩, ⟨Au, nu, cu⟩, ⟨Ah, nh, ch⟩⟩ := m
  obtain ⟨⟨x0, x1, x2, x3, x4⟩, _⟩ := (hbox w2 (Keep.refl w2)).cells
  rw [hg] at x0 x1 x2 x3 x4
  simp only [frCells] at hw2
  unfold GoOk at QN QY
  dsimp only at *
  have K2 := Lib.hid k2
  simp only [frCells]
  have H1 := Lib.hid (gin_any s 0 63)
  have H2 := Lib.hid (gin_any d 0 63)
  have H3 := Lib.hid (gcount_any lf)
  clear k2 hbox
  by_cases c1 : 0 ≤ s ∧ s ≤ 63
  rotate_left
  · have HN : Hid (q = false) := QN.out fun e => c1 e.1
    rw [decide_eq_false c1] at H1
    clear c1
    go_enter Tryz.func70, Tryz.ntmps70
    go_wp2_with fail
    refine (H1.out _).mono ?_
    rintro e w3 ⟨rfl, rfl⟩
    go_wp2_with fail
    go_ret
    exact ⟨by rw [HN.out]; rfl, K2.out⟩
  by_cases c2 : 0 ≤ d ∧ d ≤ 63
  rotate_left
  · have HN : Hid (q = false) := QN.out fun e => c2 e.2.1
    rw [decide_eq_true c1] at H1
    rw [decide_eq_false c2] at H2
    clear c1 c2
    go_enter Tryz.func70, Tryz.ntmps70
    go_wp2_with fail
    refine (H1.out _).mono ?_
    rintro e w3 ⟨rfl, rfl⟩
    go_wp2_with fail
    refine (H2.out _).mono ?_
    rintro e w4 ⟨rfl, rfl⟩
    go_wp2_with fail
    go_ret
    exact ⟨by rw [HN.out]; rfl, K2.out⟩
  by_cases c3 : ep ≤ 1125899906842624
  rotate_left
  · have HN : Hid (q = false) := QN.out fun e => c3 e.2.2.1
    rw [decide_eq_true c1] at H1
    rw [decide_eq_true c2] at H2
    have a1 : (1125899906842624 : Int) < (ep : Int) := by omega
    clear c1 c2 c3
    go_enter Tryz.func70, Tryz.ntmps70
    go_wp2_with fail
    refine (H1.out _).mono ?_
    rintro e w3 ⟨rfl, rfl⟩
    go_wp2_with fail
    refine (H2.out _).mono ?_
    rintro e w4 ⟨rfl, rfl⟩
    go_wp2_with fail
    go_ret
    exact ⟨by rw [HN.out]; rfl, K2.out⟩
  have a1 : ¬ (1125899906842624 : Int) < (ep : Int) := by omega
  have GG : Hid ((0 ≤ s ∧ s ≤ 63) ∧ (0 ≤ d ∧ d ≤ 63) ∧ ep ≤ 1125899906842624) := ⟨c1, c2, c3⟩
  rw [decide_eq_true c1] at H1
  rw [decide_eq_true c2] at H2
  clear c1 c2 c3
  by_cases c4 : k = 5
  · subst c4
    by_cases c5 : s = d
    · subst c5
      by_cases c6 : lf = 0
      · subst c6
        have HY : Hid (q = true) := QY.out ⟨GG.out.1, GG.out.2.1, GG.out.2.2, by rw [if_pos rfl]; exact ⟨rfl, rfl⟩⟩
        simp only [show ((0 : Nat) : Int) = 0 from rfl] at hw2 x4
        simp only [show ((0 : Nat) : Int) = 0 from rfl]
        go_enter Tryz.func70, Tryz.ntmps70
        go_wp2_with fail
        refine (H1.out _).mono ?_
        rintro e w3 ⟨rfl, rfl⟩
        go_wp2_with fail
        refine (H2.out _).mono ?_
        rintro e w4 ⟨rfl, rfl⟩
        go_wp2_with fail
        go_ret
        exact ⟨by rw [HY.out]; rfl, K2.out⟩
      · have HN : Hid (q = false) := QN.out fun e => by have h := e.2.2.2; rw [if_pos rfl] at h; exact c6 h.2
        have b6 : ((lf : Int) == 0) = false := beq_eq_false_iff_ne.2 (by omega)
        have b6' : ¬ lf = 0 := c6
        go_enter Tryz.func70, Tryz.ntmps70
        go_wp2_with fail
        refine (H1.out _).mono ?_
        rintro e w3 ⟨rfl, rfl⟩
        go_wp2_with fail
        refine (H2.out _).mono ?_
        rintro e w4 ⟨rfl, rfl⟩
        go_wp2_with fail
        go_ret
        exact ⟨by rw [HN.out]; rfl, K2.out⟩
    · have HN : Hid (q = false) := QN.out fun e => by have h := e.2.2.2; rw [if_pos rfl] at h; exact c5 h.1
      have b5 : (s == d) = false := beq_eq_false_iff_ne.2 c5
      clear c5
      go_enter Tryz.func70, Tryz.ntmps70
      go_wp2_with fail
      refine (H1.out _).mono ?_
      rintro e w3 ⟨rfl, rfl⟩
      go_wp2_with fail
      refine (H2.out _).mono ?_
      rintro e w4 ⟨rfl, rfl⟩
      go_wp2_with fail
      go_ret
      exact ⟨by rw [HN.out]; rfl, K2.out⟩
  · have b4 : (k == 5) = false := beq_eq_false_iff_ne.2 c4
    have C4 := Lib.hid c4
    clear c4
    by_cases c5 : s = d
    · subst c5
      have HN : Hid (q = false) := QN.out fun e => by have h := e.2.2.2; rw [if_neg C4.out] at h; exact h.1 rfl
      have b5 : (s != s) = false := by simp
      go_enter Tryz.func70, Tryz.ntmps70
      go_wp2_with fail
      refine (H1.out _).mono ?_
      rintro e w3 ⟨rfl, rfl⟩
      go_wp2_with fail
      refine (H2.out _).mono ?_
      rintro e w4 ⟨rfl, rfl⟩
      go_wp2_with fail
      go_ret
      exact ⟨by rw [HN.out]; rfl, K2.out⟩
    · have b5 : (s != d) = true := by rw [bne_iff_ne]; exact c5
      obtain ⟨v, hv⟩ : ∃ v, decide (1 ≤ lf ∧ lf ≤ 1125899906842624) = v := ⟨_, rfl⟩
      rw [hv] at H3
      have HV : Hid (q = v) := by
        show q = v
        by_cases h : 1 ≤ lf ∧ lf ≤ 1125899906842624
        · rw [← hv, decide_eq_true h]
          exact QY.out ⟨GG.out.1, GG.out.2.1, GG.out.2.2, by rw [if_neg C4.out]; exact ⟨c5, h⟩⟩
        · rw [← hv, decide_eq_false h]
          exact QN.out fun e => by have h2 := e.2.2.2; rw [if_neg C4.out] at h2; exact h h2.2
      clear c5 hv
      go_enter Tryz.func70, Tryz.ntmps70
      go_wp2_with fail
      refine (H1.out _).mono ?_
      rintro e w3 ⟨rfl, rfl⟩
      go_wp2_with fail
      refine (H2.out _).mono ?_
      rintro e w4 ⟨rfl, rfl⟩
      go_wp2_with fail
      refine (H3.out _).mono ?_
      rintro e w5 ⟨rfl, rfl⟩
      go_wp2_with fail
      go_ret
      exact ⟨by rw [HV.out]; rfl, K2.out⟩
set_option maxRecDepth 100000 in
set_option maxHeartbeats 8000000 in
theorem gmayhave_any (m : FrM) (f : FrV) (w : World) (hf : FrIn w w.heap.size m f) :
    Calls Tryz.prog 71 #[.agg (frCells m f)] w fun e w' => e = .returned (.bool (decide (HaveOk f))) ∧ Keep w w' := by
  obtain ⟨w2, hw2⟩ : ∃ w2, w.alloc (.cells (frCells m f) 52) = w2 := ⟨_, rfl⟩
  obtain ⟨k2, hbox⟩ := fr_box w _ m f hw2
  obtain ⟨g, hg⟩ : ∃ g, w.heap.size = g := ⟨_, rfl⟩
  obtain ⟨q, hq⟩ : ∃ q, decide (HaveOk f) = q := ⟨_, rfl⟩
  rw [hq]
  have QN : Hid (¬ HaveOk f → q = false) := fun e => by rw [← hq]; exact decide_eq_false e
  have QY : Hid (HaveOk f → q = true) := fun e => by rw [← hq]; exact decide_eq_true e
  clear hq
  have HI := Lib.hid hf
  have l1 := hf.co.length
  have l2 := hf.pay.length
  clear hf
  obtain ⟨k, s, d, ep, lf, fl, gn, sq, fo, co, pay, rk, te, up, hp⟩ := f
  obtain ⟨⟨Ac, nc, cc⟩, ⟨Ap, np, cp⟩, ⟨Ar, nr, cr⟩, ⟨Au, nu, cu⟩, ⟨Ah, nh, ch⟩⟩ := m
  obtain ⟨⟨x0, _, _, _, _⟩, ⟨x5, x6, x7, x8⟩, ⟨x9, x10, x11⟩, x12, x13, x14⟩ := (hbox w2 (Keep.refl w2)).cells
  rw [hg] at x0 x5 x6 x7 x8 x9 x10 x11 x12 x13 x14
  simp only [frCells] at hw2
  unfold HaveOk at QN QY
  dsimp only at *
  have K2 := Lib.hid k2
  simp only [frCells]
  have HFL := Lib.hid (gflow_any fl)
  have HSQ := Lib.hid (gcount_any sq)
  have HFO := Lib.hid (gcount_any fo)
  have HRW := Lib.hid (grow_any nc cc np cp Ac Ap)
  have HRK : Hid (∀ wr, Keep w wr → gn ≤ 1099511627776 → Calls Tryz.prog 103 #[.int .u64 (gn : Int), .slice Ar nr cr] wr fun e w' => e = .returned (.bool (decide (RankOk gn none rk))) ∧ Keep wr w') := fun wr kr hgn => granks_any wr.heap.size nr cr gn Ar rk wr (HI.out.later kr).rk (Nat.le_refl _) (HI.out.oks.2.2.1.1) hgn HI.out.rks
  have HTO : Hid (∀ wr, Keep w wr → Calls Tryz.prog 104 #[.agg #[.int .u64 (te : Int), .slice Au nu cu, .slice Ah nh ch]] wr fun e w' => e = .returned (.bool (decide (TopoOk te up hp))) ∧ Keep wr w') := fun wr kr => gmayto_any te ⟨Au, nu, cu⟩ ⟨Ah, nh, ch⟩ up hp wr (HI.out.later kr).up (HI.out.later kr).hp HI.out.oks.2.2.2.1 HI.out.oks.2.2.2.2
  clear k2 hbox
  by_cases e1 : k = 1
  · subst e1
    rw [if_pos rfl] at QN QY
    by_cases c0 : 0 ≤ fl ∧ fl ≤ 3
    rotate_left
    · have HN : Hid (q = false) := QN.out fun e => c0 e.1
      rw [decide_eq_false c0] at HFL
      clear c0
      go_enter Tryz.func71, Tryz.ntmps71
      go_wp2_with fail
      refine (HFL.out _).mono ?_
      rintro e w3 ⟨rfl, rfl⟩
      go_wp2_with fail
      go_ret
      exact ⟨by rw [HN.out]; rfl, K2.out⟩
    rw [decide_eq_true c0] at HFL
    have C0 := Lib.hid c0
    clear c0
    by_cases c1 : gn < 1099511627776
    rotate_left
    · have HN : Hid (q = false) := QN.out fun e => c1 e.2.1
      have a1 : decide ((gn : Int) < 1099511627776) = false := decide_eq_false (by omega)
      clear c1
      go_enter Tryz.func71, Tryz.ntmps71
      go_wp2_with fail
      refine (HFL.out _).mono ?_
      rintro e w3 ⟨rfl, rfl⟩
      go_wp2_with fail
      go_ret
      exact ⟨by rw [HN.out]; rfl, K2.out⟩
    have a1 : decide ((gn : Int) < 1099511627776) = true := decide_eq_true (by omega)
    have C1 := Lib.hid c1
    clear c1
    by_cases c2 : 1 ≤ sq ∧ sq ≤ 1125899906842624
    rotate_left
    · have HN : Hid (q = false) := QN.out fun e => c2 e.2.2.1
      rw [decide_eq_false c2] at HSQ
      clear c2
      go_enter Tryz.func71, Tryz.ntmps71
      go_wp2_with fail
      refine (HFL.out _).mono ?_
      rintro e w3 ⟨rfl, rfl⟩
      go_wp2_with fail
      refine (HSQ.out _).mono ?_
      rintro e w4 ⟨rfl, rfl⟩
      go_wp2_with fail
      go_ret
      exact ⟨by rw [HN.out]; rfl, K2.out⟩
    rw [decide_eq_true c2] at HSQ
    have C2 := Lib.hid c2
    clear c2
    obtain ⟨v, hv⟩ : ∃ v, decide ((1 ≤ nc ∧ nc ≤ 255) ∧ 1 ≤ np ∧ np ≤ 65535) = v := ⟨_, rfl⟩
    have HV : Hid (q = v) := by
      show q = v
      by_cases h : (1 ≤ nc ∧ nc ≤ 255) ∧ 1 ≤ np ∧ np ≤ 65535
      · rw [← hv, decide_eq_true h]
        exact QY.out ⟨C0.out, C1.out, C2.out, by rw [l1, l2]; exact h⟩
      · rw [← hv, decide_eq_false h]
        exact QN.out fun e => h (by have := e.2.2.2; rw [l1, l2] at this; exact this)
    have HL := Lib.hid (HRW.out w2)
    rw [hv] at HL
    clear hv
    go_enter Tryz.func71, Tryz.ntmps71
    go_wp2_with fail
    refine (HFL.out _).mono ?_
    rintro e w3 ⟨rfl, rfl⟩
    go_wp2_with fail
    refine (HSQ.out _).mono ?_
    rintro e w4 ⟨rfl, rfl⟩
    go_wp2_with fail
    refine HL.out.mono ?_
    rintro e w9 ⟨rfl, k9⟩
    have K9 : Hid (Keep w w9) := K2.out.trans k9
    clear k9
    go_wp2_with fail
    go_ret
    exact ⟨by rw [HV.out]; rfl, K9.out⟩
  by_cases e2 : k = 2
  · subst e2
    rw [if_neg (by decide), if_pos rfl] at QN QY
    by_cases c0 : 0 ≤ fl ∧ fl ≤ 3
    rotate_left
    · have HN : Hid (q = false) := QN.out fun e => c0 e.1
      rw [decide_eq_false c0] at HFL
      clear c0
      go_enter Tryz.func71, Tryz.ntmps71
      go_wp2_with fail
      refine (HFL.out _).mono ?_
      rintro e w3 ⟨rfl, rfl⟩
      go_wp2_with fail
      go_ret
      exact ⟨by rw [HN.out]; rfl, K2.out⟩
    rw [decide_eq_true c0] at HFL
    have C0 := Lib.hid c0
    clear c0
    by_cases c1 : gn ≤ 1099511627776
    rotate_left
    · have HN : Hid (q = false) := QN.out fun e => c1 e.2.1
      have a1 : decide ((gn : Int) ≤ 1099511627776) = false := decide_eq_false (by omega)
      clear c1
      go_enter Tryz.func71, Tryz.ntmps71
      go_wp2_with fail
      refine (HFL.out _).mono ?_
      rintro e w3 ⟨rfl, rfl⟩
      go_wp2_with fail
      go_ret
      exact ⟨by rw [HN.out]; rfl, K2.out⟩
    have a1 : decide ((gn : Int) ≤ 1099511627776) = true := decide_eq_true (by omega)
    have C1 := Lib.hid c1
    clear c1
    by_cases c2 : 1 ≤ sq ∧ sq ≤ 1125899906842624
    rotate_left
    · have HN : Hid (q = false) := QN.out fun e => c2 e.2.2.1
      rw [decide_eq_false c2] at HSQ
      clear c2
      go_enter Tryz.func71, Tryz.ntmps71
      go_wp2_with fail
      refine (HFL.out _).mono ?_
      rintro e w3 ⟨rfl, rfl⟩
      go_wp2_with fail
      refine (HSQ.out _).mono ?_
      rintro e w4 ⟨rfl, rfl⟩
      go_wp2_with fail
      go_ret
      exact ⟨by rw [HN.out]; rfl, K2.out⟩
    rw [decide_eq_true c2] at HSQ
    have C2 := Lib.hid c2
    clear c2
    obtain ⟨v, hv⟩ : ∃ v, decide (RankOk gn none rk) = v := ⟨_, rfl⟩
    have HV : Hid (q = v) := by
      show q = v
      by_cases h : RankOk gn none rk
      · rw [← hv, decide_eq_true h]
        exact QY.out ⟨C0.out, C1.out, C2.out, h⟩
      · rw [← hv, decide_eq_false h]
        exact QN.out fun e => h e.2.2.2
    have HL := Lib.hid (HRK.out w2 K2.out C1.out)
    rw [hv] at HL
    clear hv
    go_enter Tryz.func71, Tryz.ntmps71
    go_wp2_with fail
    refine (HFL.out _).mono ?_
    rintro e w3 ⟨rfl, rfl⟩
    go_wp2_with fail
    refine (HSQ.out _).mono ?_
    rintro e w4 ⟨rfl, rfl⟩
    go_wp2_with fail
    refine HL.out.mono ?_
    rintro e w9 ⟨rfl, k9⟩
    have K9 : Hid (Keep w w9) := K2.out.trans k9
    clear k9
    go_wp2_with fail
    go_ret
    exact ⟨by rw [HV.out]; rfl, K9.out⟩
  by_cases e3 : k = 3
  · subst e3
    rw [if_neg (by decide), if_neg (by decide), if_pos rfl] at QN QY
    by_cases c0 : sq ≤ 1125899906842624
    rotate_left
    · have HN : Hid (q = false) := QN.out fun e => c0 e.1
      have a0 : decide ((sq : Int) ≤ 1125899906842624) = false := decide_eq_false (by omega)
      clear c0
      go_enter Tryz.func71, Tryz.ntmps71
      go_wp2_with fail
      
      go_ret
      exact ⟨by rw [HN.out]; rfl, K2.out⟩
    have a0 : decide ((sq : Int) ≤ 1125899906842624) = true := decide_eq_true (by omega)
    have C0 := Lib.hid c0
    clear c0
    obtain ⟨v, hv⟩ : ∃ v, decide (1 ≤ fo ∧ fo ≤ 1125899906842624) = v := ⟨_, rfl⟩
    have HV : Hid (q = v) := by
      show q = v
      by_cases h : 1 ≤ fo ∧ fo ≤ 1125899906842624
      · rw [← hv, decide_eq_true h]
        exact QY.out ⟨C0.out, h⟩
      · rw [← hv, decide_eq_false h]
        exact QN.out fun e => h e.2
    rw [hv] at HFO
    clear hv
    go_enter Tryz.func71, Tryz.ntmps71
    go_wp2_with fail
    refine (HFO.out _).mono ?_
    rintro e w3 ⟨rfl, rfl⟩
    go_wp2_with fail
    go_ret
    exact ⟨by rw [HV.out]; rfl, K2.out⟩
  by_cases e4 : k = 4
  · subst e4
    rw [if_neg (by decide), if_neg (by decide), if_neg (by decide), if_pos rfl] at QN QY
    by_cases c0 : sq ≤ 1125899906842624
    · have HY : Hid (q = true) := QY.out c0
      have a0 : decide ((sq : Int) ≤ 1125899906842624) = true := decide_eq_true (by omega)
      clear c0
      go_enter Tryz.func71, Tryz.ntmps71
      go_wp2_with fail
      go_ret
      exact ⟨by rw [HY.out]; rfl, K2.out⟩
    · have HN : Hid (q = false) := QN.out c0
      have a0 : decide ((sq : Int) ≤ 1125899906842624) = false := decide_eq_false (by omega)
      clear c0
      go_enter Tryz.func71, Tryz.ntmps71
      go_wp2_with fail
      go_ret
      exact ⟨by rw [HN.out]; rfl, K2.out⟩
  by_cases e5 : k = 5
  · subst e5
    rw [if_neg (by decide), if_neg (by decide), if_neg (by decide), if_neg (by decide), if_pos rfl] at QN QY
    obtain ⟨v, hv⟩ : ∃ v, decide (TopoOk te up hp) = v := ⟨_, rfl⟩
    have HV : Hid (q = v) := by
      show q = v
      by_cases h : TopoOk te up hp
      · rw [← hv, decide_eq_true h]
        exact QY.out h
      · rw [← hv, decide_eq_false h]
        exact QN.out fun e => h e
    have HL := Lib.hid (HTO.out w2 K2.out)
    rw [hv] at HL
    clear hv
    go_enter Tryz.func71, Tryz.ntmps71
    go_wp2_with fail
    
    refine HL.out.mono ?_
    rintro e w9 ⟨rfl, k9⟩
    have K9 : Hid (Keep w w9) := K2.out.trans k9
    clear k9
    go_wp2_with fail
    go_ret
    exact ⟨by rw [HV.out]; rfl, K9.out⟩
  by_cases e6 : k = 6
  · subst e6
    rw [if_neg (by decide), if_neg (by decide), if_neg (by decide), if_neg (by decide), if_neg (by decide), if_pos rfl] at QN QY
    by_cases c0 : 0 ≤ fl ∧ fl ≤ 3
    rotate_left
    · have HN : Hid (q = false) := QN.out fun e => c0 e.1
      rw [decide_eq_false c0] at HFL
      clear c0
      go_enter Tryz.func71, Tryz.ntmps71
      go_wp2_with fail
      refine (HFL.out _).mono ?_
      rintro e w3 ⟨rfl, rfl⟩
      go_wp2_with fail
      go_ret
      exact ⟨by rw [HN.out]; rfl, K2.out⟩
    rw [decide_eq_true c0] at HFL
    have C0 := Lib.hid c0
    clear c0
    by_cases c1 : gn ≤ 1099511627776
    rotate_left
    · have HN : Hid (q = false) := QN.out fun e => c1 e.2
      have a1 : decide ((gn : Int) ≤ 1099511627776) = false := decide_eq_false (by omega)
      clear c1
      go_enter Tryz.func71, Tryz.ntmps71
      go_wp2_with fail
      refine (HFL.out _).mono ?_
      rintro e w3 ⟨rfl, rfl⟩
      go_wp2_with fail
      go_ret
      exact ⟨by rw [HN.out]; rfl, K2.out⟩
    have a1 : decide ((gn : Int) ≤ 1099511627776) = true := decide_eq_true (by omega)
    have C1 := Lib.hid c1
    clear c1
    have HY : Hid (q = true) := QY.out ⟨C0.out, C1.out⟩
    go_enter Tryz.func71, Tryz.ntmps71
    go_wp2_with fail
    refine (HFL.out _).mono ?_
    rintro e w3 ⟨rfl, rfl⟩
    go_wp2_with fail
    go_ret
    exact ⟨by rw [HY.out]; rfl, K2.out⟩
  have HN : Hid (q = false) := QN.out fun e => by
    rw [if_neg e1, if_neg e2, if_neg e3, if_neg e4, if_neg e5, if_neg e6] at e
    exact e
  have b1 : (k == 1) = false := beq_eq_false_iff_ne.2 e1
  have b2 : (k == 2) = false := beq_eq_false_iff_ne.2 e2
  have b3 : (k == 3) = false := beq_eq_false_iff_ne.2 e3
  have b4 : (k == 4) = false := beq_eq_false_iff_ne.2 e4
  have b5 : (k == 5) = false := beq_eq_false_iff_ne.2 e5
  have b6 : (k == 6) = false := beq_eq_false_iff_ne.2 e6
  clear e1 e2 e3 e4 e5 e6
  go_enter Tryz.func71, Tryz.ntmps71
  go_wp2_with fail
  go_ret
  exact ⟨by rw [HN.out]; rfl, K2.out⟩
end Go.Proofs.YtifopodnceopjaaGreatDoor
/- The laws of frames: the chapter's rows. -/
namespace Go.Proofs.YtifopodnceopjaaGreatDoor
open Go.RowKit Fr Crc
set_option linter.unusedVariables false
set_option linter.unusedSimpArgs false
theorem put_ok {f : FrV} (h : MayF f) : putE f = 0 := if_pos h
end Go.Proofs.YtifopodnceopjaaGreatDoor
/- The landed frames: own. -/
namespace Go.Proofs.YtifopodnceopjaaGreatDoor
open Go.RowKit Fr
set_option linter.unusedVariables false
set_option linter.unusedSimpArgs false
theorem resOwn : Tryz.f72.results = #[.cell 2 52] := by kernel_rfl
set_option maxRecDepth 100000 in
set_option maxHeartbeats 4000000 in
theorem gown_1 (m : FrM) (f : FrV) (w : World) (hk : f.kind = 1) :
    Calls Tryz.prog 72 #[.agg (frCells m f)] w fun e w' => e = .returned (.agg (frCells (bareM m f.kind) (bareF f))) ∧ Keep w w' := by
  obtain ⟨k, s, d, ep, lf, fl, gn, sq, fo, co, pay, rk, te, up, hp⟩ := f
  obtain ⟨⟨Ac, nc, cc⟩, ⟨Ap, np, cp⟩, ⟨Ar, nr, cr⟩, ⟨Au, nu, cu⟩, ⟨Ah, nh, ch⟩⟩ := m
  dsimp only at hk
  subst hk
  simp only [frCells, bareF, bareM]
  go_enter Tryz.func72, Tryz.ntmps72
  go_wp2_with fail
  go_region
  go_wp2_with fail
  refine bodyPost_ret (results_cell_row (p := 2) (ty := 52) resOwn _ _ (w.heap.size + 1) 52 _ (0, 0) _ rfl (mid_block w _ _ _ _ _ _) Tryz.underlying52 rfl infoFr) rfl ?_
  exact ⟨rfl, ((((Keep.refl w).alloc _ _).alloc _ _).alloc _ _).drew⟩
set_option maxRecDepth 100000 in
set_option maxHeartbeats 4000000 in
theorem gown_2 (m : FrM) (f : FrV) (w : World) (hk : f.kind = 2) :
    Calls Tryz.prog 72 #[.agg (frCells m f)] w fun e w' => e = .returned (.agg (frCells (bareM m f.kind) (bareF f))) ∧ Keep w w' := by
  obtain ⟨k, s, d, ep, lf, fl, gn, sq, fo, co, pay, rk, te, up, hp⟩ := f
  obtain ⟨⟨Ac, nc, cc⟩, ⟨Ap, np, cp⟩, ⟨Ar, nr, cr⟩, ⟨Au, nu, cu⟩, ⟨Ah, nh, ch⟩⟩ := m
  dsimp only at hk
  subst hk
  simp only [frCells, bareF, bareM]
  go_enter Tryz.func72, Tryz.ntmps72
  go_wp2_with fail
  go_region
  go_wp2_with fail
  refine bodyPost_ret (results_cell_row (p := 2) (ty := 52) resOwn _ _ (w.heap.size + 1) 52 _ (0, 0) _ rfl (mid_block w _ _ _ _ _ _) Tryz.underlying52 rfl infoFr) rfl ?_
  exact ⟨rfl, ((((Keep.refl w).alloc _ _).alloc _ _).alloc _ _).drew⟩
set_option maxRecDepth 100000 in
set_option maxHeartbeats 4000000 in
theorem gown_3 (m : FrM) (f : FrV) (w : World) (hk : f.kind = 3) :
    Calls Tryz.prog 72 #[.agg (frCells m f)] w fun e w' => e = .returned (.agg (frCells (bareM m f.kind) (bareF f))) ∧ Keep w w' := by
  obtain ⟨k, s, d, ep, lf, fl, gn, sq, fo, co, pay, rk, te, up, hp⟩ := f
  obtain ⟨⟨Ac, nc, cc⟩, ⟨Ap, np, cp⟩, ⟨Ar, nr, cr⟩, ⟨Au, nu, cu⟩, ⟨Ah, nh, ch⟩⟩ := m
  dsimp only at hk
  subst hk
  simp only [frCells, bareF, bareM]
  go_enter Tryz.func72, Tryz.ntmps72
  go_wp2_with fail
  go_region
  go_wp2_with fail
  refine bodyPost_ret (results_cell_row (p := 2) (ty := 52) resOwn _ _ (w.heap.size + 1) 52 _ (0, 0) _ rfl (mid_block w _ _ _ _ _ _) Tryz.underlying52 rfl infoFr) rfl ?_
  exact ⟨rfl, ((((Keep.refl w).alloc _ _).alloc _ _).alloc _ _).drew⟩
set_option maxRecDepth 100000 in
set_option maxHeartbeats 4000000 in
theorem gown_4 (m : FrM) (f : FrV) (w : World) (hk : f.kind = 4) :
    Calls Tryz.prog 72 #[.agg (frCells m f)] w fun e w' => e = .returned (.agg (frCells (bareM m f.kind) (bareF f))) ∧ Keep w w' := by
  obtain ⟨k, s, d, ep, lf, fl, gn, sq, fo, co, pay, rk, te, up, hp⟩ := f
  obtain ⟨⟨Ac, nc, cc⟩, ⟨Ap, np, cp⟩, ⟨Ar, nr, cr⟩, ⟨Au, nu, cu⟩, ⟨Ah, nh, ch⟩⟩ := m
  dsimp only at hk
  subst hk
  simp only [frCells, bareF, bareM]
  go_enter Tryz.func72, Tryz.ntmps72
  go_wp2_with fail
  refine bodyPost_ret (results_cell_row (p := 2) (ty := 52) resOwn _ _ (w.heap.size + 1) 52 _ (0, 0) _ rfl (mid_block w _ _ _ _ _ _) Tryz.underlying52 rfl infoFr) rfl ?_
  exact ⟨rfl, (((Keep.refl w).alloc _ _).alloc _ _).alloc _ _⟩
set_option maxRecDepth 100000 in
set_option maxHeartbeats 4000000 in
theorem gown_5 (m : FrM) (f : FrV) (w : World) (hk : f.kind = 5) :
    Calls Tryz.prog 72 #[.agg (frCells m f)] w fun e w' => e = .returned (.agg (frCells (bareM m f.kind) (bareF f))) ∧ Keep w w' := by
  obtain ⟨k, s, d, ep, lf, fl, gn, sq, fo, co, pay, rk, te, up, hp⟩ := f
  obtain ⟨⟨Ac, nc, cc⟩, ⟨Ap, np, cp⟩, ⟨Ar, nr, cr⟩, ⟨Au, nu, cu⟩, ⟨Ah, nh, ch⟩⟩ := m
  dsimp only at hk
  subst hk
  simp only [frCells, bareF, bareM]
  go_enter Tryz.func72, Tryz.ntmps72
  go_wp2_with fail
  refine bodyPost_ret (results_cell_row (p := 2) (ty := 52) resOwn _ _ (w.heap.size + 1) 52 _ (0, 0) _ rfl (mid_block w _ _ _ _ _ _) Tryz.underlying52 rfl infoFr) rfl ?_
  exact ⟨rfl, (((Keep.refl w).alloc _ _).alloc _ _).alloc _ _⟩
set_option maxRecDepth 100000 in
set_option maxHeartbeats 4000000 in
theorem gown_6 (m : FrM) (f : FrV) (w : World) (hk : f.kind = 6) :
    Calls Tryz.prog 72 #[.agg (frCells m f)] w fun e w' => e = .returned (.agg (frCells (bareM m f.kind) (bareF f))) ∧ Keep w w' := by
  obtain ⟨k, s, d, ep, lf, fl, gn, sq, fo, co, pay, rk, te, up, hp⟩ := f
  obtain ⟨⟨Ac, nc, cc⟩, ⟨Ap, np, cp⟩, ⟨Ar, nr, cr⟩, ⟨Au, nu, cu⟩, ⟨Ah, nh, ch⟩⟩ := m
  dsimp only at hk
  subst hk
  simp only [frCells, bareF, bareM]
  go_enter Tryz.func72, Tryz.ntmps72
  go_wp2_with fail
  go_region
  go_wp2_with fail
  refine bodyPost_ret (results_cell_row (p := 2) (ty := 52) resOwn _ _ (w.heap.size + 1) 52 _ (0, 0) _ rfl (mid_block w _ _ _ _ _ _) Tryz.underlying52 rfl infoFr) rfl ?_
  exact ⟨rfl, ((((Keep.refl w).alloc _ _).alloc _ _).alloc _ _).drew⟩
set_option maxRecDepth 100000 in
set_option maxHeartbeats 4000000 in
theorem gown_x (m : FrM) (f : FrV) (w : World) (hk : ¬ (1 ≤ f.kind ∧ f.kind ≤ 6)) :
    Calls Tryz.prog 72 #[.agg (frCells m f)] w fun e w' => e = .returned (.agg (frCells (bareM m f.kind) (bareF f))) ∧ Keep w w' := by
  obtain ⟨k, s, d, ep, lf, fl, gn, sq, fo, co, pay, rk, te, up, hp⟩ := f
  obtain ⟨⟨Ac, nc, cc⟩, ⟨Ap, np, cp⟩, ⟨Ar, nr, cr⟩, ⟨Au, nu, cu⟩, ⟨Ah, nh, ch⟩⟩ := m
  dsimp only at hk
  have e1 : ¬ k = 1 := by omega
  have e2 : ¬ k = 2 := by omega
  have e3 : ¬ k = 3 := by omega
  have e4 : ¬ k = 4 := by omega
  have e5 : ¬ k = 5 := by omega
  have e6 : ¬ k = 6 := by omega
  have e7 : ¬ (1 ≤ k ∧ k ≤ 4) := by omega
  simp only [frCells, bareF, bareM, e1, e2, e3, e5, e6, e7, if_false, false_or, or_false]
  have b1 : (k == 1) = false := beq_eq_false_iff_ne.2 e1
  have b2 : (k == 2) = false := beq_eq_false_iff_ne.2 e2
  have b3 : (k == 3) = false := beq_eq_false_iff_ne.2 e3
  have b4 : (k == 4) = false := beq_eq_false_iff_ne.2 e4
  have b5 : (k == 5) = false := beq_eq_false_iff_ne.2 e5
  have b6 : (k == 6) = false := beq_eq_false_iff_ne.2 e6
  clear hk e1 e2 e3 e4 e5 e6 e7
  go_enter Tryz.func72, Tryz.ntmps72
  go_wp2_with fail
  refine bodyPost_ret (results_cell_row (p := 2) (ty := 52) resOwn _ _ (w.heap.size + 1) 52 _ (0, 0) _ rfl (mid_block w _ _ _ _ _ _) Tryz.underlying52 rfl infoFr) rfl ?_
  exact ⟨rfl, (((Keep.refl w).alloc _ _).alloc _ _).alloc _ _⟩
theorem gown_any (m : FrM) (f : FrV) (w : World) : Calls Tryz.prog 72 #[.agg (frCells m f)] w fun e w' => e = .returned (.agg (frCells (bareM m f.kind) (bareF f))) ∧ Keep w w' := by
  by_cases h : 1 ≤ f.kind ∧ f.kind ≤ 6
  · by_cases e1 : f.kind = 1
    · exact gown_1 m f w e1
    by_cases e2 : f.kind = 2
    · exact gown_2 m f w e2
    by_cases e3 : f.kind = 3
    · exact gown_3 m f w e3
    by_cases e4 : f.kind = 4
    · exact gown_4 m f w e4
    by_cases e5 : f.kind = 5
    · exact gown_5 m f w e5
    exact gown_6 m f w (by omega)
  · exact gown_x m f w h
end Go.Proofs.YtifopodnceopjaaGreatDoor
