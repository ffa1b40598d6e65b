/- The landed sink: its other calls. -/
import Derived.Test.YtgelalbmhllccaaGreatQas
import Derived.Test.YtgelalbmhllccaaGreatQar
import Derived.Test.YtgelalbmhllccaaGreatQab
import Derived.Test.YtgelalbmhllccaaGreatQap
import Derived.Deep.DeepCutAuto
import Derived.Deep.CutBlock
import Derived.Test.YtgelalbmhllccaaGreatQaa
import Derived.Test.YtgelalbmhllccaaGreatQae
namespace Go.Proofs.YtgelalbmhllccaaGreat
open Go.RowKit Lin
set_option linter.unusedVariables false
set_option linter.unusedSimpArgs false
section
variable {w : World} {q got of : Nat} {g s : Int} {kn br : Bool}
set_option maxRecDepth 100000 in
theorem lsnew_in (g s : Int) (n : Nat) (hm : MayG g s) (hn : n ≤ topN) (w : World) :
    Calls Tryz.prog 6 #[.int .i64 g, .int .i64 s, .int .u64 (n : Int)] w fun e w' => e = .returned (.tuple #[.pointer (some ⟨w.heap.size, 0, none⟩), .int .i64 0]) ∧ SnkR w' w.heap.size g s n 0 false false ∧ Keep w w' := by
  have HM : Hid (MayG g s ∧ n ≤ topN) := ⟨hm, hn⟩
  have HR := Lib.hid (proom_any g s w)
  have e0 : roomE g s = 0 := if_pos hm
  have hn1 : ¬ (1099511627776 : Int) < (n : Int) := by unfold topN at hn; omega
  have hn2 : decide ((1099511627776 : Int) < (n : Int)) = false := decide_eq_false hn1
  rw [e0] at HR
  clear hm hn e0
  go_enter Tryz.func6, Tryz.ntmps6
  go_wp2_with fail
  refine HR.out.mono ?_
  rintro e w1 ⟨rfl, rfl⟩
  go_wp2_with fail
  go_ret2
  exact ⟨rfl, ⟨heap_alloc_new w _, HM.out.1, HM.out.2⟩, (Keep.refl w).alloc _ _⟩
set_option maxRecDepth 100000 in
theorem lsnew_out (g s : Int) (n : Nat) (hb : ¬ MayG g s ∨ topN < n) (w : World) :
    Calls Tryz.prog 6 #[.int .i64 g, .int .i64 s, .int .u64 (n : Int)] w fun e w' => e = .returned (.tuple #[.pointer none, .int .i64 1]) ∧ w' = w := by
  by_cases hm : MayG g s
  · have HR := Lib.hid (proom_any g s w)
    have e0 : roomE g s = 0 := if_pos hm
    have hn1 : (1099511627776 : Int) < (n : Int) := by
      have h := hb.resolve_left (fun h => h hm)
      unfold topN at h; omega
    have hn2 : decide ((1099511627776 : Int) < (n : Int)) = true := decide_eq_true hn1
    rw [e0] at HR
    clear hm hb e0
    go_enter Tryz.func6, Tryz.ntmps6
    go_wp2_with fail
    refine HR.out.mono ?_
    rintro e w1 ⟨rfl, rfl⟩
    go_wp2_with fail
    go_ret2
    exact ⟨rfl, rfl⟩
  · have HR := Lib.hid (proom_any g s w)
    have e0 : roomE g s = 1 := if_neg hm
    rw [e0] at HR
    clear hm hb e0
    go_enter Tryz.func6, Tryz.ntmps6
    go_wp2_with fail
    refine HR.out.mono ?_
    rintro e w1 ⟨rfl, rfl⟩
    go_wp2_with fail
    go_ret2
    exact ⟨rfl, rfl⟩
/-- What Total tells, and leaves. -/
def ltotE (got of n : Nat) (kn : Bool) : Int := if n < got ∨ topN < n then 1 else if kn = true ∧ of ≠ n then 9 else 0
def ltotOf (got of n : Nat) (kn : Bool) : Nat := if ltotE got of n kn = 0 then n else of
def ltotKn (got of n : Nat) (kn : Bool) : Bool := if ltotE got of n kn = 0 then true else kn
set_option maxRecDepth 100000 in
set_option maxHeartbeats 2000000 in
theorem ltotal_any (h : SnkR w q g s got of kn br) (n : Nat) (hn : n < 18446744073709551616) :
    Calls Tryz.prog 15 #[.pointer (some ⟨q, 0, none⟩), .int .u64 (n : Int)] w fun e w' => e = .returned (.int .i64 (ltotE got of n kn)) ∧ SnkR w' q g s got (ltotOf got of n kn) (ltotKn got of n kn) br ∧ Turned (fun a => a = q) w w' := by
  have H := Lib.hid h
  have c2 := h.c2
  have c3 := h.c3
  have c4 := h.c4
  have z3 := h.free 3
  have z4 := h.free 4
  have HIM := Lib.hid (ismade_any h)
  clear h
  by_cases h1 : n < got
  · have e : ltotE got of n kn = 1 := if_pos (Or.inl h1)
    rw [ltotOf, ltotKn, e]
    have d1 : (n : Int) < (got : Int) := by omega
    have d2 : decide ((n : Int) < (got : Int)) = true := decide_eq_true d1
    clear e h1
    go_enter Tryz.func15, Tryz.ntmps15
    go_wp2_with fail
    refine HIM.out.mono ?_
    rintro e w1 ⟨rfl, hw1⟩
    obtain rfl : w = w1 := hw1.symm
    go_wp2_with fail
    go_ret
    exact ⟨rfl, H.out, Turned.refl _ _⟩
  · have d1 : ¬ (n : Int) < (got : Int) := by omega
    have d2 : decide ((n : Int) < (got : Int)) = false := decide_eq_false d1
    by_cases h2 : topN < n
    · have e : ltotE got of n kn = 1 := if_pos (Or.inr h2)
      rw [ltotOf, ltotKn, e]
      have d3 : (1099511627776 : Int) < (n : Int) := by unfold topN at h2; omega
      have d4 : decide ((1099511627776 : Int) < (n : Int)) = true := decide_eq_true d3
      clear e h1 h2
      go_enter Tryz.func15, Tryz.ntmps15
      go_wp2_with fail
      refine HIM.out.mono ?_
      rintro e w1 ⟨rfl, hw1⟩
      obtain rfl : w = w1 := hw1.symm
      go_wp2_with fail
      go_ret
      exact ⟨rfl, H.out, Turned.refl _ _⟩
    · have d3 : ¬ (1099511627776 : Int) < (n : Int) := by unfold topN at h2; omega
      have d4 : decide ((1099511627776 : Int) < (n : Int)) = false := decide_eq_false d3
      have hlow : ¬ (n < got ∨ topN < n) := by omega
      have fin : ∀ (k0 : Bool), SnkR w q g s got of k0 br → SnkR ((w.setCell ⟨q, 3, none⟩ (.int .u64 (n : Int))).setCell ⟨q, 4, none⟩ (.bool true)) q g s got n true br ∧ Turned (fun a => a = q) w ((w.setCell ⟨q, 3, none⟩ (.int .u64 (n : Int))).setCell ⟨q, 4, none⟩ (.bool true)) ∧ (w.setCell ⟨q, 3, none⟩ (.int .u64 (n : Int))).frozen? ⟨q, 4, none⟩ = false ∧ (w.setCell ⟨q, 3, none⟩ (.int .u64 (n : Int))).cell? ⟨q, 4, none⟩ = some (.bool k0) := fun k0 hh =>
        ⟨(hh.setOf n).setKn true, (Turned.set (F := fun a => a = q) w ⟨q, 3, none⟩ _ rfl).trans (Turned.set (F := fun a => a = q) _ ⟨q, 4, none⟩ _ rfl) fun j e => Or.inl e, (hh.setOf n).free 4, (hh.setOf n).c4⟩
      cases kn with
      | false =>
        have e : ltotE got of n false = 0 := by rw [ltotE, if_neg hlow, if_neg (by simp)]
        rw [ltotOf, ltotKn, e]
        clear e h1 h2 hlow
        obtain ⟨f1, f2, f3, f4⟩ := fin _ H.out
        have HF := Lib.hid (And.intro f1 f2)
        clear f1 f2 fin
        go_enter Tryz.func15, Tryz.ntmps15
        go_wp2_with fail
        refine HIM.out.mono ?_
        rintro e w1 ⟨rfl, hw1⟩
        obtain rfl : w = w1 := hw1.symm
        go_wp2_with fail
        go_ret
        exact ⟨rfl, HF.out.1, HF.out.2⟩
      | true =>
        by_cases h3 : of = n
        · have e : ltotE got of n true = 0 := by rw [ltotE, if_neg hlow, if_neg (by simp [h3])]
          rw [ltotOf, ltotKn, e]
          have d5 : ((n : Int) != (of : Int)) = false := by simp [h3]
          have d6 : ((n : Int) == (of : Int)) = true := by simp [h3]
          clear e h1 h2 hlow h3
          obtain ⟨f1, f2, f3, f4⟩ := fin _ H.out
          have HF := Lib.hid (And.intro f1 f2)
          clear f1 f2 fin
          go_enter Tryz.func15, Tryz.ntmps15
          go_wp2_with fail
          refine HIM.out.mono ?_
          rintro e w1 ⟨rfl, hw1⟩
          obtain rfl : w = w1 := hw1.symm
          go_wp2_with fail
          go_ret
          exact ⟨rfl, HF.out.1, HF.out.2⟩
        · have e : ltotE got of n true = 9 := by rw [ltotE, if_neg hlow, if_pos ⟨rfl, h3⟩]
          rw [ltotOf, ltotKn, e]
          have d5 : ((n : Int) != (of : Int)) = true := by rw [bne_iff_ne]; omega
          have d6 : ((n : Int) == (of : Int)) = false := by rw [beq_eq_false_iff_ne]; omega
          clear e h1 h2 hlow h3 fin
          go_enter Tryz.func15, Tryz.ntmps15
          go_wp2_with fail
          refine HIM.out.mono ?_
          rintro e w1 ⟨rfl, hw1⟩
          obtain rfl : w = w1 := hw1.symm
          go_wp2_with fail
          go_ret
          exact ⟨rfl, H.out, Turned.refl _ _⟩
set_option maxRecDepth 100000 in
theorem ldelivered_any (h : SnkR w q g s got of kn br) :
    Calls Tryz.prog 20 #[.pointer (some ⟨q, 0, none⟩)] w fun e w' => e = .returned (.int .u64 (got : Int)) ∧ w = w' := by
  have c2 := h.c2
  have HIM := Lib.hid (ismade_any h)
  clear h
  go_enter Tryz.func20, Tryz.ntmps20
  go_wp2_with fail
  refine HIM.out.mono ?_
  rintro e w1 ⟨rfl, hw1⟩
  obtain rfl : w = w1 := hw1.symm
  go_wp2_with fail
  go_ret
  exact ⟨rfl, rfl⟩
set_option maxRecDepth 100000 in
theorem lbroken_any (h : SnkR w q g s got of kn br) :
    Calls Tryz.prog 23 #[.pointer (some ⟨q, 0, none⟩)] w fun e w' => e = .returned (.bool br) ∧ w = w' := by
  have c5 := h.c5
  have HIM := Lib.hid (ismade_any h)
  clear h
  go_enter Tryz.func23, Tryz.ntmps23
  go_wp2_with fail
  refine HIM.out.mono ?_
  rintro e w1 ⟨rfl, hw1⟩
  obtain rfl : w = w1 := hw1.symm
  go_wp2_with fail
  go_ret
  exact ⟨rfl, rfl⟩
set_option maxRecDepth 100000 in
theorem lknown_any (h : SnkR w q g s got of kn br) :
    Calls Tryz.prog 19 #[.pointer (some ⟨q, 0, none⟩)] w fun e w' => e = .returned (.tuple #[.int .u64 (of : Int), .bool kn]) ∧ ∃ m, w' = w.drewN m := by
  have c3 := h.c3
  have c4 := h.c4
  have HIM := Lib.hid (ismade_any h)
  clear h
  go_enter Tryz.func19, Tryz.ntmps19
  go_wp2_with fail
  refine HIM.out.mono ?_
  rintro e w1 ⟨rfl, hw1⟩
  obtain rfl : w = w1 := hw1.symm
  go_wp2_with fail
  go_quiet (fail)
  go_wp2_with fail
  go_ret2
  exact ⟨rfl, _, rfl⟩
theorem SnkR.drewN (h : SnkR w q g s got of kn br) (m : Nat) : SnkR (w.drewN m) q g s got of kn br := ⟨h.block, h.may, h.top⟩
set_option maxRecDepth 100000 in
theorem ldone_any (h : SnkR w q g s got of kn br) :
    Calls Tryz.prog 21 #[.pointer (some ⟨q, 0, none⟩)] w fun e w' => e = .returned (.bool (kn && decide (of = got))) ∧ ∃ m, w' = w.drewN m := by
  have HK := Lib.hid (lknown_any h)
  have hd : ∀ m, Calls Tryz.prog 20 #[.pointer (some ⟨q, 0, none⟩)] (w.drewN m) fun e w' => e = .returned (.int .u64 (got : Int)) ∧ w.drewN m = w' := fun m => ldelivered_any (h.drewN m)
  have HD := Lib.hid hd
  have dd : decide (of = got) = ((of : Int) == (got : Int)) := by
    by_cases e : of = got
    · rw [decide_eq_true e, e]; simp
    · rw [decide_eq_false e]; symm; rw [beq_eq_false_iff_ne]; omega
  rw [dd]
  clear dd h hd
  go_enter Tryz.func21, Tryz.ntmps21
  go_wp2_with fail
  refine HK.out.mono ?_
  rintro e w1 ⟨rfl, m, rfl⟩
  cases kn with
  | false =>
    go_wp2_with fail
    go_ret
    exact ⟨rfl, _, rfl⟩
  | true =>
    go_wp2_with fail
    refine (HD.out m).mono ?_
    rintro e w1 ⟨rfl, rfl⟩
    go_wp2_with fail
    go_ret
    exact ⟨by first | rfl | simp, _, rfl⟩
end
section
variable {w : World} {q p got of : Nat} {g s : Int} {kn br : Bool}
theorem rel_boxes (w : World) (u : Value) {B0 : Nat} (hB0 : w.heap.size = B0) :
    Keep w (((w.alloc (.cells #[u] 27)).alloc (.cells #[.slice none 0 0] 40)).alloc (.cells #[.int .i64 0] 28)) ∧
    (((w.alloc (.cells #[u] 27)).alloc (.cells #[.slice none 0 0] 40)).alloc (.cells #[.int .i64 0] 28)).heap[B0]? = some (.cells #[u] 27 (0, 0)) ∧
    (((w.alloc (.cells #[u] 27)).alloc (.cells #[.slice none 0 0] 40)).alloc (.cells #[.int .i64 0] 28)).heap[B0 + 1]? = some (.cells #[.slice none 0 0] 40 (0, 0)) ∧
    (((w.alloc (.cells #[u] 27)).alloc (.cells #[.slice none 0 0] 40)).alloc (.cells #[.int .i64 0] 28)).heap[B0 + 1 + 1]? = some (.cells #[.int .i64 0] 28 (0, 0)) := by
  refine ⟨(((Keep.refl w).alloc _ _).alloc _ _).alloc _ _, ?_, ?_, ?_⟩
  · rw [← hB0]; exact (Below.heap_alloc _ _ _ (by simp; omega)).trans ((Below.heap_alloc _ _ _ (by simp)).trans (heap_alloc_new w _))
  · have h := heap_alloc_new (w.alloc (.cells #[u] 27)) (.cells #[.slice none 0 0] 40)
    rw [World.size_alloc] at h
    rw [← hB0]; exact (Below.heap_alloc _ _ _ (by simp)).trans h
  · have h := heap_alloc_new ((w.alloc (.cells #[u] 27)).alloc (.cells #[.slice none 0 0] 40)) (.cells #[.int .i64 0] 28)
    rw [World.size_alloc, World.size_alloc] at h
    rw [← hB0]; exact h
set_option maxRecDepth 100000 in
theorem krel_br (h : SnkR w q g s got of kn true) :
    Calls Tryz.prog 10 #[.pointer (some ⟨q, 0, none⟩), .pointer (some ⟨p, 0, none⟩)] w fun e w' => e = .returned (.tuple #[.slice none 0 0, .int .i64 5]) ∧ Keep w w' := by
  refine (callsIn_wide (n := 8)).1 ?_
  refine callsIn_of_wp_marks Tryz.func10 rfl trivial ?_ rfl
  simp only [Tryz.ntmps10, List.size_toArray, List.length_cons, List.length_nil, Nat.reduceAdd, Nat.reduceSub, Array.replicate_succ, Array.replicate_zero, List.push_toArray, List.append_toArray, List.nil_append, List.cons_append]
  obtain ⟨B0, hB0⟩ : ∃ v, w.heap.size = v := ⟨_, rfl⟩
  obtain ⟨k3, x0, x1, x2⟩ := rel_boxes w (.pointer (some ⟨q, 0, none⟩)) hB0
  obtain ⟨w3, hw3⟩ : ∃ v, ((w.alloc (.cells #[.pointer (some ⟨q, 0, none⟩)] 27)).alloc (.cells #[.slice none 0 0] 40)).alloc (.cells #[.int .i64 0] 28) = v := ⟨_, rfl⟩
  rw [hw3] at k3 x0 x1 x2
  have hS3 := h.keep k3
  have him := ismade_any hS3
  have c5 := hS3.c5
  clear h hS3
  have y0 : w3.cell? ⟨B0, 0, none⟩ = some (.pointer (some ⟨q, 0, none⟩)) := cell_of_row _ _ _ _ _ _ x0
  have y1 : w3.cell? ⟨B0 + 1, 0, none⟩ = some (.slice none 0 0) := cell_of_row _ _ _ _ _ _ x1
  have y2 : w3.cell? ⟨B0 + 1 + 1, 0, none⟩ = some (.int .i64 0) := cell_of_row _ _ _ _ _ _ x2
  have z1 : w3.frozen? ⟨B0 + 1, 0, none⟩ = false := by simp [World.frozen?, x1]
  have z2 : w3.frozen? ⟨B0 + 1 + 1, 0, none⟩ = false := by simp [World.frozen?, x2]
  have t1 : Turned (fun a => a = B0 + 1) w3 (w3.setCell ⟨B0 + 1, 0, none⟩ (.slice none 0 0)) := Turned.set (F := fun a => a = B0 + 1) w3 ⟨B0 + 1, 0, none⟩ _ rfl
  have X2 := boxed_later (B := B0 + 1 + 1) x2 t1 (by omega)
  have K3 : Hid (Keep w ((w3.setCell ⟨B0 + 1, 0, none⟩ (.slice none 0 0)).setCell ⟨B0 + 1 + 1, 0, none⟩ (.int .i64 5))) := (k3.setCell (a := ⟨B0 + 1, 0, none⟩) (by show w.heap.size ≤ B0 + 1; omega) _).setCell (a := ⟨B0 + 1 + 1, 0, none⟩) (by show w.heap.size ≤ B0 + 1 + 1; omega) _
  have b1 := (boxed_later (boxed_put (B := B0 + 1) x1 (.slice none 0 0)) (Turned.set (F := fun a => a = B0 + 1 + 1) _ ⟨B0 + 1 + 1, 0, none⟩ (.int .i64 5) rfl) (by omega)).cell
  have b2 := (boxed_put X2 (.int .i64 5)).cell
  clear x0 x1 x2 k3 X2 t1
  gi_wp2_with (refine ⟨trivial, ?_⟩; gi_at_call 38; refine (callsIn_wide.2 him).mono ?_; rintro e w4 ⟨rfl, h4⟩; rw [h4]; clear h4)
  exact ⟨_, results_two rfl _ _ _ _ _ _ rfl rfl b1 b2 (by simp [isAgg, go_sem, Tryz.underlying40]) (by simp [isAgg, go_sem, Tryz.underlying28]), rfl, K3.out⟩
set_option maxRecDepth 100000 in
theorem krel_nil (h : SnkR w q g s got of kn br) :
    Calls Tryz.prog 10 #[.pointer (some ⟨q, 0, none⟩), .pointer none] w fun e w' => e = .returned (.tuple #[.slice none 0 0, .int .i64 2]) ∧ Keep w w' := by
  refine (callsIn_wide (n := 8)).1 ?_
  refine callsIn_of_wp_marks Tryz.func10 rfl trivial ?_ rfl
  simp only [Tryz.ntmps10, List.size_toArray, List.length_cons, List.length_nil, Nat.reduceAdd, Nat.reduceSub, Array.replicate_succ, Array.replicate_zero, List.push_toArray, List.append_toArray, List.nil_append, List.cons_append]
  obtain ⟨B0, hB0⟩ : ∃ v, w.heap.size = v := ⟨_, rfl⟩
  obtain ⟨k3, x0, x1, x2⟩ := rel_boxes w (.pointer (some ⟨q, 0, none⟩)) hB0
  obtain ⟨w3, hw3⟩ : ∃ v, ((w.alloc (.cells #[.pointer (some ⟨q, 0, none⟩)] 27)).alloc (.cells #[.slice none 0 0] 40)).alloc (.cells #[.int .i64 0] 28) = v := ⟨_, rfl⟩
  rw [hw3] at k3 x0 x1 x2
  have him := ismade_any (h.keep k3)
  clear h
  have y0 : w3.cell? ⟨B0, 0, none⟩ = some (.pointer (some ⟨q, 0, none⟩)) := cell_of_row _ _ _ _ _ _ x0
  have y1 : w3.cell? ⟨B0 + 1, 0, none⟩ = some (.slice none 0 0) := cell_of_row _ _ _ _ _ _ x1
  have y2 : w3.cell? ⟨B0 + 1 + 1, 0, none⟩ = some (.int .i64 0) := cell_of_row _ _ _ _ _ _ x2
  have z1 : w3.frozen? ⟨B0 + 1, 0, none⟩ = false := by simp [World.frozen?, x1]
  have z2 : w3.frozen? ⟨B0 + 1 + 1, 0, none⟩ = false := by simp [World.frozen?, x2]
  have t1 : Turned (fun a => a = B0 + 1) w3 (w3.setCell ⟨B0 + 1, 0, none⟩ (.slice none 0 0)) := Turned.set (F := fun a => a = B0 + 1) w3 ⟨B0 + 1, 0, none⟩ _ rfl
  have X2 := boxed_later (B := B0 + 1 + 1) x2 t1 (by omega)
  have K3 : Hid (Keep w ((w3.setCell ⟨B0 + 1, 0, none⟩ (.slice none 0 0)).setCell ⟨B0 + 1 + 1, 0, none⟩ (.int .i64 2))) := (k3.setCell (a := ⟨B0 + 1, 0, none⟩) (by show w.heap.size ≤ B0 + 1; omega) _).setCell (a := ⟨B0 + 1 + 1, 0, none⟩) (by show w.heap.size ≤ B0 + 1 + 1; omega) _
  have b1 := (boxed_later (boxed_put (B := B0 + 1) x1 (.slice none 0 0)) (Turned.set (F := fun a => a = B0 + 1 + 1) _ ⟨B0 + 1 + 1, 0, none⟩ (.int .i64 2) rfl) (by omega)).cell
  have b2 := (boxed_put X2 (.int .i64 2)).cell
  clear x0 x1 x2 k3 X2 t1
  gi_wp2_with (refine ⟨trivial, ?_⟩; gi_at_call 38; refine (callsIn_wide.2 him).mono ?_; rintro e w4 ⟨rfl, h4⟩; rw [h4]; clear h4)
  exact ⟨_, results_two rfl _ _ _ _ _ _ rfl rfl b1 b2 (by simp [isAgg, go_sem, Tryz.underlying40]) (by simp [isAgg, go_sem, Tryz.underlying28]), rfl, K3.out⟩
set_option maxRecDepth 100000 in
theorem krel_none (w : World) (u : Value) :
    Calls Tryz.prog 10 #[.pointer none, u] w fun e w' => e = .returned (.tuple #[.slice none 0 0, .int .i64 2]) ∧ Keep w w' := by
  refine (callsIn_wide (n := 8)).1 ?_
  refine callsIn_of_wp_marks Tryz.func10 rfl trivial ?_ rfl
  simp only [Tryz.ntmps10, List.size_toArray, List.length_cons, List.length_nil, Nat.reduceAdd, Nat.reduceSub, Array.replicate_succ, Array.replicate_zero, List.push_toArray, List.append_toArray, List.nil_append, List.cons_append]
  obtain ⟨B0, hB0⟩ : ∃ v, w.heap.size = v := ⟨_, rfl⟩
  obtain ⟨k3, x0, x1, x2⟩ := rel_boxes w (.pointer none) hB0
  obtain ⟨w3, hw3⟩ : ∃ v, ((w.alloc (.cells #[.pointer none] 27)).alloc (.cells #[.slice none 0 0] 40)).alloc (.cells #[.int .i64 0] 28) = v := ⟨_, rfl⟩
  rw [hw3] at k3 x0 x1 x2
  have him := ismade_none w3
  have y0 : w3.cell? ⟨B0, 0, none⟩ = some (.pointer none) := cell_of_row _ _ _ _ _ _ x0
  have y1 : w3.cell? ⟨B0 + 1, 0, none⟩ = some (.slice none 0 0) := cell_of_row _ _ _ _ _ _ x1
  have y2 : w3.cell? ⟨B0 + 1 + 1, 0, none⟩ = some (.int .i64 0) := cell_of_row _ _ _ _ _ _ x2
  have z1 : w3.frozen? ⟨B0 + 1, 0, none⟩ = false := by simp [World.frozen?, x1]
  have z2 : w3.frozen? ⟨B0 + 1 + 1, 0, none⟩ = false := by simp [World.frozen?, x2]
  have t1 : Turned (fun a => a = B0 + 1) w3 (w3.setCell ⟨B0 + 1, 0, none⟩ (.slice none 0 0)) := Turned.set (F := fun a => a = B0 + 1) w3 ⟨B0 + 1, 0, none⟩ _ rfl
  have X2 := boxed_later (B := B0 + 1 + 1) x2 t1 (by omega)
  have K3 : Hid (Keep w ((w3.setCell ⟨B0 + 1, 0, none⟩ (.slice none 0 0)).setCell ⟨B0 + 1 + 1, 0, none⟩ (.int .i64 2))) := (k3.setCell (a := ⟨B0 + 1, 0, none⟩) (by show w.heap.size ≤ B0 + 1; omega) _).setCell (a := ⟨B0 + 1 + 1, 0, none⟩) (by show w.heap.size ≤ B0 + 1 + 1; omega) _
  have b1 := (boxed_later (boxed_put (B := B0 + 1) x1 (.slice none 0 0)) (Turned.set (F := fun a => a = B0 + 1 + 1) _ ⟨B0 + 1 + 1, 0, none⟩ (.int .i64 2) rfl) (by omega)).cell
  have b2 := (boxed_put X2 (.int .i64 2)).cell
  clear x0 x1 x2 k3 X2 t1
  gi_wp2_with (refine ⟨trivial, ?_⟩; gi_at_call 38; refine (callsIn_wide.2 him).mono ?_; rintro e w4 ⟨rfl, h4⟩; rw [h4]; clear h4)
  exact ⟨_, results_two rfl _ _ _ _ _ _ rfl rfl b1 b2 (by simp [isAgg, go_sem, Tryz.underlying40]) (by simp [isAgg, go_sem, Tryz.underlying28]), rfl, K3.out⟩
end
end Go.Proofs.YtgelalbmhllccaaGreat
/- The document's own sink. -/
namespace Go.Proofs.YtgelalbmhllccaaGreat
open Go.RowKit Lin
set_option linter.unusedVariables false
set_option linter.unusedSimpArgs false
/-- It lies at q. -/
structure RefK (w : World) (q : Nat) (g s : Int) (got of : Nat) (kn br : Bool) : Prop where
  block : w.heap[q]? = some (.cells #[.int .i64 g, .int .i64 s, .int .u64 (got : Int), .int .u64 (of : Int), .bool kn, .bool br] 61 (0, 0))
  may : MayG g s
  top : got ≤ topN
namespace RefK
variable {w w' : World} {q got of : Nat} {g s : Int} {kn br : Bool} {G : Nat → Prop}
theorem lt (h : RefK w q g s got of kn br) : q < w.heap.size := (Array.getElem?_eq_some_iff.1 h.block).1
theorem turned (h : RefK w q g s got of kn br) (t : Turned G w w') (hn : ¬ G q) : RefK w' q g s got of kn br := ⟨(t.block q h.lt hn).trans h.block, h.may, h.top⟩
theorem keep (h : RefK w q g s got of kn br) (k : Keep w w') : RefK w' q g s got of kn br := ⟨(k.block q h.lt).trans h.block, h.may, h.top⟩
theorem c0 (h : RefK w q g s got of kn br) : w.cell? ⟨q, 0, none⟩ = some (.int .i64 g) := cell_of_row _ _ _ _ _ _ h.block
theorem c1 (h : RefK w q g s got of kn br) : w.cell? ⟨q, 1, none⟩ = some (.int .i64 s) := cell_of_row _ _ _ _ _ _ h.block
theorem c2 (h : RefK w q g s got of kn br) : w.cell? ⟨q, 2, none⟩ = some (.int .u64 (got : Int)) := cell_of_row _ _ _ _ _ _ h.block
theorem c3 (h : RefK w q g s got of kn br) : w.cell? ⟨q, 3, none⟩ = some (.int .u64 (of : Int)) := cell_of_row _ _ _ _ _ _ h.block
theorem c4 (h : RefK w q g s got of kn br) : w.cell? ⟨q, 4, none⟩ = some (.bool kn) := cell_of_row _ _ _ _ _ _ h.block
theorem c5 (h : RefK w q g s got of kn br) : w.cell? ⟨q, 5, none⟩ = some (.bool br) := cell_of_row _ _ _ _ _ _ h.block
theorem free (h : RefK w q g s got of kn br) (i : Nat) : w.frozen? ⟨q, i, none⟩ = false := by simp [World.frozen?, h.block]
theorem setGot (h : RefK w q g s got of kn br) {n : Nat} (hn : n ≤ topN) : RefK (w.setCell ⟨q, 2, none⟩ (.int .u64 (n : Int))) q g s n of kn br := ⟨by rw [bset h.block]; rfl, h.may, hn⟩
theorem setOf (h : RefK w q g s got of kn br) (n : Nat) : RefK (w.setCell ⟨q, 3, none⟩ (.int .u64 (n : Int))) q g s got n kn br := ⟨by rw [bset h.block]; rfl, h.may, h.top⟩
theorem setKn (h : RefK w q g s got of kn br) (b : Bool) : RefK (w.setCell ⟨q, 4, none⟩ (.bool b)) q g s got of b br := ⟨by rw [bset h.block]; rfl, h.may, h.top⟩
theorem setBr (h : RefK w q g s got of kn br) (b : Bool) : RefK (w.setCell ⟨q, 5, none⟩ (.bool b)) q g s got of kn b := ⟨by rw [bset h.block]; rfl, h.may, h.top⟩
end RefK
section
variable {w : World} {q got of : Nat} {g s : Int} {kn br : Bool}
set_option maxRecDepth 100000 in
set_option maxHeartbeats 2000000 in
theorem sknew_in (g s : Int) (n : Nat) (hm : MayG g s) (hn : n ≤ topN) (w : World) :
    Calls Tryz.prog 7 #[.int .i64 g, .int .i64 s, .int .u64 (n : Int)] w fun e w' => e = .returned (.tuple #[.pointer (some ⟨w.heap.size, 0, none⟩), .int .i64 0]) ∧ RefK w' w.heap.size g s n 0 false false ∧ Keep w w' := by
  have HM : Hid (MayG g s ∧ n ≤ topN) := ⟨hm, hn⟩
  have HR := Lib.hid (rroom_any g s w)
  have e0 : roomE g s = 0 := if_pos hm
  have hn1 : ¬ (1099511627776 : Int) < (n : Int) := by unfold topN at hn; omega
  have hn2 : decide ((1099511627776 : Int) < (n : Int)) = false := decide_eq_false hn1
  rw [e0] at HR
  clear hm hn e0
  go_enter Tryz.func7, Tryz.ntmps7
  go_wp2_with fail
  refine HR.out.mono ?_
  rintro e w1 ⟨rfl, rfl⟩
  go_wp2_with fail
  go_ret2
  exact ⟨rfl, ⟨heap_alloc_new w _, HM.out.1, HM.out.2⟩, (Keep.refl w).alloc _ _⟩
set_option maxRecDepth 100000 in
set_option maxHeartbeats 2000000 in
theorem sknew_out (g s : Int) (n : Nat) (hb : ¬ MayG g s ∨ topN < n) (hn64 : n < 18446744073709551616) (w : World) :
    Calls Tryz.prog 7 #[.int .i64 g, .int .i64 s, .int .u64 (n : Int)] w fun e w' => e = .returned (.tuple #[.pointer none, .int .i64 1]) ∧ w' = w := by
  by_cases hm : MayG g s
  · have HR := Lib.hid (rroom_any g s w)
    have e0 : roomE g s = 0 := if_pos hm
    have hn1 : (1099511627776 : Int) < (n : Int) := by
      have h := hb.resolve_left (fun h => h hm)
      unfold topN at h; omega
    have hn2 : decide ((1099511627776 : Int) < (n : Int)) = true := decide_eq_true hn1
    rw [e0] at HR
    clear hm hb e0
    go_enter Tryz.func7, Tryz.ntmps7
    go_wp2_with fail
    refine HR.out.mono ?_
    rintro e w1 ⟨rfl, rfl⟩
    go_wp2_with fail
    go_ret2
    exact ⟨rfl, rfl⟩
  · have HR := Lib.hid (rroom_any g s w)
    have e0 : roomE g s = 1 := if_neg hm
    rw [e0] at HR
    clear hm hb e0
    go_enter Tryz.func7, Tryz.ntmps7
    go_wp2_with fail
    refine HR.out.mono ?_
    rintro e w1 ⟨rfl, rfl⟩
    go_wp2_with fail
    go_ret2
    exact ⟨rfl, rfl⟩
/-- What Total tells, and leaves. -/
def totE (got of n : Nat) (kn : Bool) : Int := if n < got ∨ topN < n then 1 else if kn = true ∧ of ≠ n then 9 else 0
def totOf (got of n : Nat) (kn : Bool) : Nat := if totE got of n kn = 0 then n else of
def totKn (got of n : Nat) (kn : Bool) : Bool := if totE got of n kn = 0 then true else kn
set_option maxRecDepth 100000 in
set_option maxHeartbeats 2000000 in
theorem sktotal_any (h : RefK w q g s got of kn br) (n : Nat) (hn : n < 18446744073709551616) :
    Calls Tryz.prog 16 #[.pointer (some ⟨q, 0, none⟩), .int .u64 (n : Int)] w fun e w' => e = .returned (.int .i64 (totE got of n kn)) ∧ RefK w' q g s got (totOf got of n kn) (totKn got of n kn) br ∧ Turned (fun a => a = q) w w' := by
  have H := Lib.hid h
  have c2 := h.c2
  have c3 := h.c3
  have c4 := h.c4
  have z3 := h.free 3
  have z4 := h.free 4
  clear h
  by_cases h1 : n < got
  · have e : totE got of n kn = 1 := if_pos (Or.inl h1)
    rw [totOf, totKn, e]
    have d1 : (n : Int) < (got : Int) := by omega
    have d2 : decide ((n : Int) < (got : Int)) = true := decide_eq_true d1
    clear e h1
    go_enter Tryz.func16, Tryz.ntmps16
    go_wp2_with fail
    go_ret
    exact ⟨rfl, H.out, Turned.refl _ _⟩
  · have d1 : ¬ (n : Int) < (got : Int) := by omega
    have d2 : decide ((n : Int) < (got : Int)) = false := decide_eq_false d1
    by_cases h2 : topN < n
    · have e : totE got of n kn = 1 := if_pos (Or.inr h2)
      rw [totOf, totKn, e]
      have d3 : (1099511627776 : Int) < (n : Int) := by unfold topN at h2; omega
      have d4 : decide ((1099511627776 : Int) < (n : Int)) = true := decide_eq_true d3
      clear e h1 h2
      go_enter Tryz.func16, Tryz.ntmps16
      go_wp2_with fail
      go_ret
      exact ⟨rfl, H.out, Turned.refl _ _⟩
    · have d3 : ¬ (1099511627776 : Int) < (n : Int) := by unfold topN at h2; omega
      have d4 : decide ((1099511627776 : Int) < (n : Int)) = false := decide_eq_false d3
      have hlow : ¬ (n < got ∨ topN < n) := by omega
      cases kn with
      | false =>
        have e : totE got of n false = 0 := by rw [totE, if_neg hlow, if_neg (by simp)]
        rw [totOf, totKn, e]
        clear e h1 h2 hlow
        have HE := Lib.hid ((H.out.setKn true).setOf n)
        have HT : Hid (Turned (fun a => a = q) w ((w.setCell ⟨q, 4, none⟩ (.bool true)).setCell ⟨q, 3, none⟩ (.int .u64 (n : Int)))) := (Turned.set (F := fun a => a = q) w ⟨q, 4, none⟩ _ rfl).trans (Turned.set (F := fun a => a = q) _ ⟨q, 3, none⟩ _ rfl) fun j e => Or.inl e
        have y3 := (H.out.setKn true).c3
        have y4 := (H.out.setKn true).free 3
        go_enter Tryz.func16, Tryz.ntmps16
        go_wp2_with fail
        go_ret
        exact ⟨rfl, HE.out, HT.out⟩
      | true =>
        by_cases h3 : of = n
        · have e : totE got of n true = 0 := by rw [totE, if_neg hlow, if_neg (by simp [h3])]
          rw [totOf, totKn, e]
          have d5 : ((of : Int) != (n : Int)) = false := by simp [h3]
          clear e h1 h2 hlow h3
          have HE := Lib.hid ((H.out.setKn true).setOf n)
          have HT : Hid (Turned (fun a => a = q) w ((w.setCell ⟨q, 4, none⟩ (.bool true)).setCell ⟨q, 3, none⟩ (.int .u64 (n : Int)))) := (Turned.set (F := fun a => a = q) w ⟨q, 4, none⟩ _ rfl).trans (Turned.set (F := fun a => a = q) _ ⟨q, 3, none⟩ _ rfl) fun j e => Or.inl e
          have y3 := (H.out.setKn true).c3
          have y4 := (H.out.setKn true).free 3
          go_enter Tryz.func16, Tryz.ntmps16
          go_wp2_with fail
          go_ret
          exact ⟨rfl, HE.out, HT.out⟩
        · have e : totE got of n true = 9 := by rw [totE, if_neg hlow, if_pos ⟨rfl, h3⟩]
          rw [totOf, totKn, e]
          have d5 : ((of : Int) != (n : Int)) = true := by rw [bne_iff_ne]; omega
          clear e h1 h2 hlow h3
          go_enter Tryz.func16, Tryz.ntmps16
          go_wp2_with fail
          go_ret
          exact ⟨rfl, H.out, Turned.refl _ _⟩
set_option maxRecDepth 100000 in
set_option maxHeartbeats 2000000 in
theorem skdone_any (h : RefK w q g s got of kn br) :
    Calls Tryz.prog 22 #[.pointer (some ⟨q, 0, none⟩)] w fun e w' => e = .returned (.bool (kn && decide (of = got))) ∧ ∃ k, w' = w.drewN k := by
  have c2 := h.c2
  have c3 := h.c3
  have c4 := h.c4
  clear h
  have dd : decide (of = got) = ((of : Int) == (got : Int)) := by
    by_cases e : of = got
    · rw [decide_eq_true e, e]; simp
    · rw [decide_eq_false e]; symm; rw [beq_eq_false_iff_ne]; omega
  rw [dd]
  clear dd
  cases kn with
  | false =>
    go_enter Tryz.func22, Tryz.ntmps22
    go_wp2_with fail
    go_quiet (fail)
    go_wp2_with fail
    go_ret
    exact ⟨rfl, _, rfl⟩
  | true =>
    go_enter Tryz.func22, Tryz.ntmps22
    go_wp2_with fail
    go_quiet (fail)
    go_wp2_with fail
    go_ret
    exact ⟨by first | rfl | simp, _, rfl⟩
end
end Go.Proofs.YtgelalbmhllccaaGreat
/- The document's own sink: Release. -/
namespace Go.Proofs.YtgelalbmhllccaaGreat
open Go.RowKit Lin
set_option linter.unusedVariables false
set_option linter.unusedSimpArgs false
/-- On the way: what was released so far, the sink and the relay. -/
structure KI (w wr : World) (F : Nat → Prop) (p q g s k b : Nat) (L : Nat → List (List Nat)) (got of : Nat) (kn : Bool) (A : Option Addr) (n c : Nat) (rs : List RowV) (got' : Nat) (F' : Nat → Prop) : Prop where
  ref : RefK wr q (g : Int) (s : Int) got' of kn false
  y : RefY wr F' p g s k b L
  yf : ∀ a, F' a → F a ∨ w.heap.size ≤ a
  nq : ¬ F' q
  ql : q < w.heap.size
  rel : RelI g s k b L got (rowsXs rs) got'
  own : OwnRows wr w.heap.size 43 A n c rs
  rows : ∀ r ∈ rs, LiesIn wr (fun x => w.heap.size ≤ x ∧ x < wr.heap.size ∧ ¬ F' x ∧ ¬ (Value.slice A n c).ownBlock = some x) r
  apo : ∀ x, (Value.slice A n c).ownBlock = some x → ¬ F' x
  t : Turned (fun a => F a ∨ a = q) w wr
namespace KI
variable {w wr w2 : World} {F F' F2 : Nat → Prop} {p q g s k b got of n c got' : Nat} {L : Nat → List (List Nat)} {kn : Bool} {A : Option Addr} {rs : List RowV}
theorem later (h : KI w wr F p q g s k b L got of kn A n c rs got' F') (kp : Keep wr w2) : KI w w2 F p q g s k b L got of kn A n c rs got' F' :=
  ⟨h.ref.keep kp, h.y.keep kp, h.yf, h.nq, h.ql, h.rel, h.own.keep kp, fun r hr => ((h.rows r hr).turned (Turned.of_keep (F := fun _ => False) kp) fun _ _ e => e).mono fun x e => ⟨e.1, Nat.lt_of_lt_of_le e.2.1 kp.size, e.2.2⟩, h.apo, h.t.trans (Turned.of_keep kp) fun j e => Or.inl e⟩
/-- The relay goes on. -/
theorem next (h : KI w wr F p q g s k b L got of kn A n c rs got' F') (hy : YNext wr w2 F' F2 p g s k b L) : KI w w2 F p q g s k b L got of kn A n c rs got' F2 := by
  have hsz := h.t.size
  have nF : ∀ x, x < wr.heap.size → ¬ F' x → ¬ F2 x := fun x h1 h2 e => by
    rcases hy.2.1 x e with e | e
    · exact h2 e
    · omega
  refine ⟨h.ref.turned hy.2.2 h.nq, hy.1, fun a ha => ?_, nF q (by have := h.ql; omega) h.nq, h.ql, h.rel, OwnRows.turned h.own hy.2.2 fun x e => h.apo x e, fun r hr => ((h.rows r hr).turned hy.2.2 fun x e => e.2.2.1).mono fun x e => ⟨e.1, Nat.lt_of_lt_of_le e.2.1 hy.2.2.size, nF x e.2.1 e.2.2.1, e.2.2.2⟩, fun x e => nF x (h.own.lt x e).2 (h.apo x e), ?_⟩
  · rcases hy.2.1 a ha with e | e
    · exact h.yf a e
    · exact Or.inr (Nat.le_trans hsz e)
  · exact h.t.trans hy.2.2 fun j e => by
      rcases h.yf j e with e | e
      · exact Or.inl (Or.inl e)
      · exact Or.inr e
/-- A chunk more. -/
theorem more {A2 : Option Addr} {c2 : Nat} {r : RowV} {w3 : World} (h : KI w w2 F p q g s k b L got of kn A n c rs got' F') (h1 : rdyN g k b L got') (h2 : takeE g s (symN g (L got')) = 0) (hx : r.xs = takeV g s (symN g (L got'))) (hr : LiesIn w2 (fun x => w.heap.size ≤ x ∧ x < w2.heap.size ∧ ¬ F' x ∧ ¬ (Value.slice A n c).ownBlock = some x) r)
    (ho : OwnRows w3 w.heap.size 43 A2 (n + 1) c2 (rs ++ [r])) (kb : Turned (fun a => (Value.slice A n c).ownBlock = some a) w2 w3) (hb : (Value.slice A2 (n + 1) c2).ownBlock = (Value.slice A n c).ownBlock ∨ ∃ x, (Value.slice A2 (n + 1) c2).ownBlock = some x ∧ w2.heap.size ≤ x) (hq : (Value.slice A n c).ownBlock ≠ some q) :
    KI w (w3.setCell ⟨q, 2, none⟩ (.int .u64 ((got' + 1 : Nat) : Int))) F p q g s k b L got of kn A2 (n + 1) c2 (rs ++ [r]) (got' + 1) F' := by
  have hsz := h.t.size
  have ts : Turned (fun a => a = q) w3 (w3.setCell ⟨q, 2, none⟩ (.int .u64 ((got' + 1 : Nat) : Int))) := Turned.set (F := fun a => a = q) w3 ⟨q, 2, none⟩ _ rfl
  have hql := h.ql
  have hown : ∀ x, (Value.slice A2 (n + 1) c2).ownBlock = some x → w.heap.size ≤ x ∧ ¬ F' x := fun x e => by
    rcases hb with e2 | ⟨y, e2, e3⟩
    · rw [e2] at e; exact ⟨(h.own.lt x e).1, h.apo x e⟩
    · rw [e2] at e
      injection e with e
      subst e
      exact ⟨by omega, fun e => by have := h.y.lt y e; omega⟩
  have hrow : ∀ r' ∈ rs ++ [r], LiesIn w2 (fun x => w.heap.size ≤ x ∧ x < w2.heap.size ∧ ¬ F' x ∧ ¬ (Value.slice A n c).ownBlock = some x) r' := fun r' hr' => by
    rcases List.mem_append.1 hr' with e | e
    · exact h.rows r' e
    · obtain rfl : r' = r := by simpa using e
      exact hr
  refine ⟨(h.ref.turned kb fun e => hq e).setGot (by have := rdy_top h1; omega), (h.y.turned kb fun a ha e => h.apo a e ha).turned ts fun a ha e => h.nq (e ▸ ha), h.yf, h.nq, h.ql, ?_, OwnRows.turned ho ts fun x e e2 => by have := (hown x e).1; omega, fun r' hr' => ?_, fun x e => (hown x e).2, ?_⟩
  · have h3 := h.rel.more h1 h2
    rw [← hx] at h3
    have e : rowsXs (rs ++ [r]) = rowsXs rs ++ [r.xs] := by simp [rowsXs]
    rw [e]; exact h3
  · refine (((hrow r' hr').turned kb fun x e => e.2.2.2).turned ts fun x e e2 => by have := e.1; omega).mono fun x e => ⟨e.1, Nat.lt_of_lt_of_le e.2.1 (Nat.le_trans kb.size ts.size), e.2.2.1, fun e2 => ?_⟩
    rcases hb with e3 | ⟨y, e3, e4⟩
    · rw [e3] at e2; exact e.2.2.2 e2
    · rw [e3] at e2
      injection e2 with e2
      have := e.2.1
      omega
  · refine (h.t.trans kb fun j e => Or.inr (h.own.lt j e).1).trans ts fun j e => Or.inl (Or.inr e)
end KI
section
variable {w : World} {F : Nat → Prop} {p q g s k b got of : Nat} {L : Nat → List (List Nat)} {kn : Bool}
/-- What Release tells. -/
def RelTold (w : World) (F : Nat → Prop) (p q g s k b : Nat) (L : Nat → List (List Nat)) (got of : Nat) (kn : Bool) (e : Ending) (w' : World) : Prop :=
  ∃ (A : Option Addr) (n c : Nat) (rs : List RowV) (F' : Nat → Prop) (n' : Nat) (br : Bool), e = .returned (.tuple #[.slice A n c, .int .i64 (if br then 5 else 0)]) ∧ RelT g s k b L got (rowsXs rs) n' br ∧
    RowsIn w' (fun x => w.heap.size ≤ x ∧ x < w'.heap.size ∧ ¬ F' x) A n rs ∧ n ≤ c ∧ RefK w' q (g : Int) (s : Int) n' of kn br ∧ RefY w' F' p g s k b L ∧ (∀ a, F' a → F a ∨ w.heap.size ≤ a) ∧ ¬ F' q ∧ Turned (fun a => F a ∨ a = q) w w'
theorem KI.told {w wr : World} {F F' : Nat → Prop} {p q g s k b got of n c got' : Nat} {L : Nat → List (List Nat)} {kn : Bool} {A : Option Addr} {rs : List RowV} (h : KI w wr F p q g s k b L got of kn A n c rs got' F') (hr : ¬ rdyN g k b L got') :
    RelTold w F p q g s k b L got of kn (.returned (.tuple #[.slice A n c, .int .i64 0])) wr :=
  ⟨A, n, c, rs, F', got', false, rfl, h.rel.done hr, RowsIn.of_own h.own (fun r hr => (h.rows r hr).mono fun x e => ⟨e.1, e.2.1, e.2.2.1⟩) fun x e => ⟨(h.own.lt x e).1, (h.own.lt x e).2, h.apo x e⟩, ownrows_le h.own, h.ref, h.y, h.yf, h.nq, h.t⟩
theorem KI.broke {w wr : World} {F F' : Nat → Prop} {p q g s k b got of n c got' : Nat} {L : Nat → List (List Nat)} {kn : Bool} {A : Option Addr} {rs : List RowV} (h : KI w wr F p q g s k b L got of kn A n c rs got' F') (h1 : rdyN g k b L got') (h2 : takeE g s (symN g (L got')) ≠ 0) :
    RelTold w F p q g s k b L got of kn (.returned (.tuple #[.slice A n c, .int .i64 5])) (wr.setCell ⟨q, 5, none⟩ (.bool true)) := by
  have hql := h.ql
  have ts : Turned (fun a => a = q) wr (wr.setCell ⟨q, 5, none⟩ (.bool true)) := Turned.set (F := fun a => a = q) wr ⟨q, 5, none⟩ _ rfl
  have hsz := ts.size
  exact ⟨A, n, c, rs, F', got', true, rfl, h.rel.bad h1 h2, ((RowsIn.of_own (F := fun x => w.heap.size ≤ x ∧ x < wr.heap.size ∧ ¬ F' x) h.own (fun r hr => (h.rows r hr).mono fun x e => ⟨e.1, e.2.1, e.2.2.1⟩) fun x e => ⟨(h.own.lt x e).1, (h.own.lt x e).2, h.apo x e⟩).turned ts fun x e e2 => by have := e.1; omega).mono fun x e => ⟨e.1, Nat.lt_of_lt_of_le e.2.1 hsz, e.2.2⟩, ownrows_le h.own, h.ref.setBr true, h.y.turned ts fun a ha e => h.nq (e ▸ ha), h.yf, h.nq, h.t.trans ts fun j e => Or.inl (Or.inr e)⟩
set_option maxRecDepth 100000 in
set_option maxHeartbeats 4000000 in
theorem skrel_in (h : RefK w q (g : Int) (s : Int) got of kn false) (hy : RefY w F p g s k b L) (hq : ¬ F q) :
    Calls Tryz.prog 13 #[.pointer (some ⟨q, 0, none⟩), .pointer (some ⟨p, 0, none⟩)] w (RelTold w F p q g s k b L got of kn) := by
  have HI0 : Hid (KI w w F p q g s k b L got of kn none 0 0 [] got F) := ⟨h, hy, fun a e => Or.inl e, hq, h.lt, RelI.start g s k b L got, OwnRows.nilR _ _, fun r hr => by simp at hr, fun x e => by simp [Value.ownBlock] at e, Turned.refl _ _⟩
  have c5 := h.c5
  have HMG : Hid (MayG (g : Int) (s : Int)) := h.may
  clear h hy hq
  go_enter Tryz.func13, Tryz.ntmps13
  go_wp2_with fail
  clear c5
  go_loopw [6] (fun ov wr => ∃ (A : Option Addr) (n c : Nat) (rs : List RowV) (got' : Nat) (F' : Nat → Prop), ov = .slice A n c ∧ KI w wr F p q g s k b L got of kn A n c rs got' F') (fun ov _ => match ov with | .slice _ n _ => 17 - n | _ => 0)
  case atStart => exact ⟨none, 0, 0, [], got, F, rfl, HI0.out⟩
  case round =>
    clear HI0
    obtain ⟨A, n, c, rs, got', F', rfl, hI⟩ := hrel
    have HI := Lib.hid hI
    have c2 := hI.ref.c2
    have hn : n ≤ 16 := by
      have h1 := hI.rel.few
      have h2 := hI.own.length
      obtain ⟨wb, h3, -, -⟩ := hI.y.win
      have h4 := h3.high
      rw [rowsXs, List.length_map] at h1
      omega
    have htop : got' < 18446744073709551616 := by have := hI.ref.top; unfold topN at this; omega
    clear hI
    by_cases hlt : got' < topN
    · have d1 : (got' : Int) < 1099511627776 := by unfold topN at hlt; omega
      have d2 : decide ((got' : Int) < 1099511627776) = true := decide_eq_true d1
      have HSV := Lib.hid (ysolve_all HI.out.y got' (HI.out.y.len got').1)
      by_cases hrd : rdyN g k b L got'
      · have e1 : ySolveE g k b L got' = 0 := by rw [ySolveE, if_pos hrd.1, if_pos hrd.2]
        have e2 : ySolveV g k b L got' = symN g (L got') := by rw [ySolveV, if_pos (show winIn b k got' = true ∧ (L got').length = g from hrd)]; rfl
        have hsv := HSV.out
        rw [e1, e2] at hsv
        have HS2 := Lib.hid hsv
        have HRD := Lib.hid hrd
        clear hsv e1 e2 HSV hrd
        go_wp2_with fail
        refine HS2.out.mono ?_
        rintro e w4 ⟨A4, n4, c4, rt, F4, rfl, o4, l4, ex, y4⟩
        have HI4 := Lib.hid (HI.out.next y4)
        have hlen : ∀ r ∈ rt, r.n ≤ 140737488351232 := fun r hr => by
          have h1 : r.xs ∈ symN g (L got') := by rw [← ex]; exact List.mem_map.2 ⟨r, hr, rfl⟩
          obtain ⟨x, hx, e⟩ := List.mem_map.1 h1
          have h2 := (l4 r hr).1
          have h3 : x.length = g + s := by
            obtain ⟨wb, A, n, c, G, hA⟩ := y4.1
            by_cases hm : ∃ z ∈ G, z.n = got'
            · obtain ⟨z, hz, hz2⟩ := hm
              have hb := (hA.ok z hz).1.ok
              rw [hA.l z hz, hz2] at hb
              exact (hb x hx).1
            · have hno := hA.no got' fun z hz e => hm ⟨z, hz, e⟩
              rw [hno] at hx
              simp at hx
          rw [← e, List.length_drop, h3] at h2
          have := HMG.out.2.2.2.1
          omega
        have hra := RowsIn.of_own (F := fun x => x < w4.heap.size) o4 (fun r hr => (l4 r hr).mono fun x e => y4.1.lt x e) fun x e => (o4.lt x e).2
        have htk : ∀ w5, Keep w4 w5 → Calls Tryz.prog 46 #[.slice A4 n4 c4, .int .i64 (g : Int), .int .i64 (s : Int)] w5 (NewPair w5 (takeV g s (symN g (L got'))) (takeE g s (symN g (L got')))) := fun w5 k5 => by
          have h := rtake_any (g : Int) (s : Int) A4 n4 c4 rt w5 ((hra.turned (Turned.of_keep (F := fun _ => False) k5) fun _ _ e => e).rowsAt (B := w5.heap.size) (fun x e => Nat.lt_of_lt_of_le e k5.size) hlen)
          have e1 : tkE (g : Int) (s : Int) (rowsOf rt) = takeE g s (symN g (L got')) := by rw [tkE, if_neg (not_not_intro HMG.out), ← ex]; rfl
          have e2 : tkV (g : Int) (s : Int) (rowsOf rt) = takeV g s (symN g (L got')) := by rw [tkV, if_neg (not_not_intro HMG.out), ← ex]; rfl
          rw [e1, e2] at h
          exact h
        have HTK := Lib.hid htk
        obtain ⟨te, hte⟩ : ∃ v, takeE g s (symN g (L got')) = v := ⟨_, rfl⟩
        obtain ⟨V, hV⟩ : ∃ v, takeV g s (symN g (L got')) = v := ⟨_, rfl⟩
        rw [hte, hV] at HTK
        have HTE := Lib.hid hte
        have HV := Lib.hid hV
        have y0 := HI4.out.ref.c0
        have y1 := HI4.out.ref.c1
        clear o4 l4 ex y4 hlen hra htk hte hV HS2 c2
        go_wp2_with fail
        refine wp_region_noPanic ?_
        refine wp_region_held_drew (S := fun wz => wz.cell? ⟨q, 0, none⟩ = some (.int .i64 (g : Int)) ∧ wz.cell? ⟨q, 1, none⟩ = some (.int .i64 (s : Int))) (by kernel_rfl) ⟨y0, y1⟩ (fun hHeld => ?_)
        refine wpAnyH_take (i := 0) (v := ?_) rfl (by kernel_rfl) (by kernel_rfl) (by kernel_rfl) (fun _ _ _ h => h) (Or.inl ⟨by rfl, ?_⟩) hHeld ?_
        rotate_left
        · intro wq hSw
          go_simp
          all_goals with_reducible rfl
        try simp only [Act.put, List.getElem_toArray, List.getElem_cons_succ, List.getElem_cons_zero, List.setIfInBounds_toArray, List.set_cons_zero, List.set_cons_succ]
        refine wpAnyH_take (i := 1) (v := ?_) rfl (by kernel_rfl) (by kernel_rfl) (by kernel_rfl) (fun _ _ _ h => h) (Or.inl ⟨by rfl, ?_⟩) hHeld ?_
        rotate_left
        · intro wq hSw
          go_simp
          all_goals with_reducible rfl
        try simp only [Act.put, List.getElem_toArray, List.getElem_cons_succ, List.getElem_cons_zero, List.setIfInBounds_toArray, List.set_cons_zero, List.set_cons_succ]
        refine wpAnyH_take (i := 2) (v := ?_) rfl (by kernel_rfl) (by kernel_rfl) (by kernel_rfl) (fun _ _ _ h => h) (Or.inl ⟨by rfl, ?_⟩) hHeld ?_
        rotate_left
        · intro wq hSw
          go_simp
          all_goals with_reducible rfl
        try simp only [Act.put, List.getElem_toArray, List.getElem_cons_succ, List.getElem_cons_zero, List.setIfInBounds_toArray, List.set_cons_zero, List.set_cons_succ]
        refine wpAnyH_take (i := 3) (v := ?_) rfl (by kernel_rfl) (by kernel_rfl) (by kernel_rfl) (fun _ _ _ h => h) (Or.inl ⟨by rfl, ?_⟩) hHeld ?_
        rotate_left
        · intro wq hSw
          go_simp
          all_goals with_reducible rfl
        try simp only [Act.put, List.getElem_toArray, List.getElem_cons_succ, List.getElem_cons_zero, List.setIfInBounds_toArray, List.set_cons_zero, List.set_cons_succ]
        refine wpAnyH_take (i := 4) (v := ?_) rfl (by kernel_rfl) (by kernel_rfl) (by kernel_rfl) (fun _ _ _ h => h) (Or.inl ⟨by rfl, ?_⟩) hHeld ?_
        rotate_left
        · intro wq hSw
          have q0 := hSw.1
          go_simp
          all_goals with_reducible rfl
        try simp only [Act.put, List.getElem_toArray, List.getElem_cons_succ, List.getElem_cons_zero, List.setIfInBounds_toArray, List.set_cons_zero, List.set_cons_succ]
        refine wpAnyH_take (i := 5) (v := ?_) rfl (by kernel_rfl) (by kernel_rfl) (by kernel_rfl) (fun _ _ _ h => h) (Or.inl ⟨by rfl, ?_⟩) hHeld ?_
        rotate_left
        · intro wq hSw
          go_simp
          all_goals with_reducible rfl
        try simp only [Act.put, List.getElem_toArray, List.getElem_cons_succ, List.getElem_cons_zero, List.setIfInBounds_toArray, List.set_cons_zero, List.set_cons_succ]
        refine wpAnyH_take (i := 6) (v := ?_) rfl (by kernel_rfl) (by kernel_rfl) (by kernel_rfl) (fun _ _ _ h => h) (Or.inl ⟨by rfl, ?_⟩) hHeld ?_
        rotate_left
        · intro wq hSw
          go_simp
          all_goals with_reducible rfl
        try simp only [Act.put, List.getElem_toArray, List.getElem_cons_succ, List.getElem_cons_zero, List.setIfInBounds_toArray, List.set_cons_zero, List.set_cons_succ]
        refine wpAnyH_take (i := 7) (v := ?_) rfl (by kernel_rfl) (by kernel_rfl) (by kernel_rfl) (fun _ _ _ h => h) (Or.inl ⟨by rfl, ?_⟩) hHeld ?_
        rotate_left
        · intro wq hSw
          go_simp
          all_goals with_reducible rfl
        try simp only [Act.put, List.getElem_toArray, List.getElem_cons_succ, List.getElem_cons_zero, List.setIfInBounds_toArray, List.set_cons_zero, List.set_cons_succ]
        refine wpAnyH_take (i := 8) (v := ?_) rfl (by kernel_rfl) (by kernel_rfl) (by kernel_rfl) (fun _ _ _ h => h) (Or.inl ⟨by rfl, ?_⟩) hHeld ?_
        rotate_left
        · intro wq hSw
          have q0 := hSw.2
          go_simp
          all_goals with_reducible rfl
        try simp only [Act.put, List.getElem_toArray, List.getElem_cons_succ, List.getElem_cons_zero, List.setIfInBounds_toArray, List.set_cons_zero, List.set_cons_succ]
        refine wpAnyH_ready (rs := [9]) (by kernel_rfl) (by simp) ?_
        refine AllReadyH.cons rfl (fun K hK => ?_) AllReadyH.nil
        go_simp
        refine (HTK.out _ (Keep.drew (Keep.refl _))).mono ?_
        rintro e w5 ⟨A5, n5, c5, rfl, o5, k5⟩
        have K5 : Hid (Keep w4 w5) := (Keep.drew (Keep.refl w4)).trans k5
        have HO5 := Lib.hid o5
        have hq5 : w5.cell? ⟨q, 0, none⟩ = some (.int .i64 (g : Int)) ∧ w5.cell? ⟨q, 1, none⟩ = some (.int .i64 (s : Int)) := ⟨(HI4.out.ref.keep K5.out).c0, (HI4.out.ref.keep K5.out).c1⟩
        clear o5 k5
        refine hK.out _ _ hq5 (fun hHeld => ?_)
        clear hK K
        try simp only [Act.put, List.getElem_toArray, List.getElem_cons_succ, List.getElem_cons_zero, List.setIfInBounds_toArray, List.set_cons_zero, List.set_cons_succ]
        refine wpAnyH_take (i := 10) (v := ?_) rfl (by kernel_rfl) (by kernel_rfl) (by kernel_rfl) (fun _ _ _ h => h) (Or.inl ⟨by rfl, ?_⟩) hHeld ?_
        rotate_left
        · intro wq hSw
          go_simp
          all_goals with_reducible rfl
        try simp only [Act.put, List.getElem_toArray, List.getElem_cons_succ, List.getElem_cons_zero, List.setIfInBounds_toArray, List.set_cons_zero, List.set_cons_succ]
        refine wpAnyH_take (i := 11) (v := ?_) rfl (by kernel_rfl) (by kernel_rfl) (by kernel_rfl) (fun _ _ _ h => h) (Or.inl ⟨by rfl, ?_⟩) hHeld ?_
        rotate_left
        · intro wq hSw
          go_simp
          all_goals with_reducible rfl
        try simp only [Act.put, List.getElem_toArray, List.getElem_cons_succ, List.getElem_cons_zero, List.setIfInBounds_toArray, List.set_cons_zero, List.set_cons_succ]
        refine wpAnyH_take (i := 12) (v := ?_) rfl (by kernel_rfl) (by kernel_rfl) (by kernel_rfl) (fun _ _ _ h => h) (Or.inl ⟨by rfl, ?_⟩) hHeld ?_
        rotate_left
        · intro wq hSw
          go_simp
          all_goals with_reducible rfl
        try simp only [Act.put, List.getElem_toArray, List.getElem_cons_succ, List.getElem_cons_zero, List.setIfInBounds_toArray, List.set_cons_zero, List.set_cons_succ]
        refine wpAnyH_take (i := 13) (v := ?_) rfl (by kernel_rfl) (by kernel_rfl) (by kernel_rfl) (fun _ _ _ h => h) (Or.inl ⟨by rfl, ?_⟩) hHeld ?_
        rotate_left
        · intro wq hSw
          go_simp
          all_goals with_reducible rfl
        try simp only [Act.put, List.getElem_toArray, List.getElem_cons_succ, List.getElem_cons_zero, List.setIfInBounds_toArray, List.set_cons_zero, List.set_cons_succ]
        refine wpAnyH_take (i := 14) (v := ?_) rfl (by kernel_rfl) (by kernel_rfl) (by kernel_rfl) (fun _ _ _ h => h) (Or.inl ⟨by rfl, ?_⟩) hHeld ?_
        rotate_left
        · intro wq hSw
          go_simp
          all_goals with_reducible rfl
        try simp only [Act.put, List.getElem_toArray, List.getElem_cons_succ, List.getElem_cons_zero, List.setIfInBounds_toArray, List.set_cons_zero, List.set_cons_succ]
        refine wpAnyH_done (by kernel_rfl) ?_ _
        refine NoPanic.normal ?_
        clear hHeld
        clear hq5 y0 y1 HTK
        by_cases hok : te = 0
        · subst hok
          have HI5 := Lib.hid (HI4.out.later K5.out)
          go_wp2_with (at_builtin; refine wpList_append_row rfl _ _ 40 rfl ⟨A5, n5, c5, V⟩ Tryz.underlying40 infoRow rfl (HI5.out.own.alloc _) rfl (by rw [World.cell?_alloc_at _ _ _ _ (by simp)]; rfl) (by omega) (by have := HI5.out.t.size; simp at this ⊢; omega) ?_)
          intro A9 c9 w9 h9 hgr9 hb9
          have ka : Keep w5 (w5.alloc (.cells #[.slice A5 n5 c5] 43)) := (Keep.refl w5).alloc _ _
          have kT : Turned (fun a => (Value.slice A n c).ownBlock = some a) w5 w9 := (Turned.of_keep ka).trans (Turned.of_grown (F := fun a => (Value.slice A n c).ownBlock = some a) hgr9 fun i e => e) fun i e => Or.inl e
          have hqn : (Value.slice A n c).ownBlock ≠ some q := fun e => by have h1 := (HI5.out.own.lt q e).1; have h2 := HI5.out.ql; omega
          have hlies : LiesIn w5 (fun x => w.heap.size ≤ x ∧ x < w5.heap.size ∧ ¬ F4 x ∧ ¬ (Value.slice A n c).ownBlock = some x) ⟨A5, n5, c5, V⟩ := HO5.out.lies.mono fun x e => by
            have h1 := HO5.out.1.lt x e
            have h0 : w4.heap.size ≤ x := h1.1
            have h2 := HI4.out.t.size
            exact ⟨by omega, h1.2, fun e2 => by have := HI4.out.y.lt x e2; omega, fun e2 => by have := (HI4.out.own.lt x e2).2; omega⟩
          have hb9' : (Value.slice A9 (n + 1) c9).ownBlock = (Value.slice A n c).ownBlock ∨ ∃ x, (Value.slice A9 (n + 1) c9).ownBlock = some x ∧ w5.heap.size ≤ x := by
            rcases hb9 with e | e
            · exact Or.inl e
            · exact Or.inr ⟨_, e, Nat.le_succ _⟩
          have hm := HI5.out.more (r := ⟨A5, n5, c5, V⟩) HRD.out HTE.out HV.out.symm hlies h9 kT hb9' hqn
          have hr9 := HI5.out.ref.turned kT fun e => hqn e
          obtain ⟨gp, hgp⟩ : ∃ v, got' + 1 = v := ⟨_, rfl⟩
          rw [hgp] at hm
          have HM := Lib.hid hm
          have y2 := hr9.c2
          have z2 := hr9.free 2
          have g1 : (got' : Int) + 1 = (gp : Int) := by omega
          have g2 : IntKind.u64.wrap (gp : Int) = (gp : Int) := IntWalk.u64_in _ (by omega)
          have g3 : IntKind.u64.wrap ((got' : Int) + 1) = (gp : Int) := by rw [g1]; exact g2
          clear h9 hgr9 hb9 ka kT hqn hlies hb9' hm hr9 hgp
          go_wp2_with fail
          go_roundw
          case rel => exact ⟨A9, n + 1, c9, _, gp, F4, rfl, HM.out⟩
          case measure => (show 17 - (n + 1) < 17 - n; omega)
        · have hb0 : (te == 0) = false := by rw [beq_eq_false_iff_ne]; exact hok
          have hb1 : (te != 0) = true := by rw [bne, hb0]; rfl
          have HI5 := Lib.hid (HI4.out.later K5.out)
          have z5 := HI5.out.ref.free 5
          have y5 := HI5.out.ref.c5
          have HF := Lib.hid (HI5.out.broke HRD.out (by rw [HTE.out]; exact hok))
          go_wp2_with fail
          go_ret2
          exact HF.out
      · have e1 : ySolveE g k b L got' ≠ 0 := by
          rw [ySolveE]
          by_cases hw : winIn b k got' = true
          · rw [if_pos hw, if_neg fun e => hrd ⟨hw, e⟩]; decide
          · rw [if_neg hw]; decide
        obtain ⟨te, hte⟩ : ∃ v, ySolveE g k b L got' = v := ⟨_, rfl⟩
        have hsv := HSV.out
        rw [hte] at hsv e1
        have hb0 : (te == 0) = false := by rw [beq_eq_false_iff_ne]; exact e1
        have hb1 : (te != 0) = true := by rw [bne, hb0]; rfl
        have HS2 := Lib.hid hsv
        have HRD := Lib.hid hrd
        clear hsv HSV hrd hte
        go_wp2_with fail
        refine HS2.out.mono ?_
        rintro e w4 ⟨A4, n4, c4, rt, F4, rfl, -, -, -, y4⟩
        have HT := Lib.hid ((HI.out.next y4).told HRD.out)
        clear y4 HS2 c2
        go_wp2_with fail
        go_ret2
        exact HT.out
    · have d1 : ¬ (got' : Int) < 1099511627776 := by unfold topN at hlt; omega
      have d2 : decide ((got' : Int) < 1099511627776) = false := decide_eq_false d1
      have HT := Lib.hid (HI.out.told fun e => hlt (rdy_top e))
      go_wp2_with fail
      go_ret2
      exact HT.out
end
end Go.Proofs.YtgelalbmhllccaaGreat
/- The document's own sink, broken: what Release tells then, and what it tells in any case. -/
namespace Go.Proofs.YtgelalbmhllccaaGreat
open Go.RowKit Lin
set_option linter.unusedVariables false
set_option linter.unusedSimpArgs false
section
variable {w : World} {F : Nat → Prop} {p q g s k b got of : Nat} {L : Nat → List (List Nat)} {kn : Bool}
set_option maxRecDepth 100000 in
set_option maxHeartbeats 4000000 in
theorem skrel_br (h : RefK w q (g : Int) (s : Int) got of kn true) :
    Calls Tryz.prog 13 #[.pointer (some ⟨q, 0, none⟩), .pointer (some ⟨p, 0, none⟩)] w fun e w' => e = .returned (.tuple #[.slice none 0 0, .int .i64 5]) ∧ ∃ m, w' = w.drewN m := by
  have c5 := h.c5
  clear h
  go_enter Tryz.func13, Tryz.ntmps13
  go_wp2_with fail
  go_ret2
  exact ⟨rfl, ⟨0, rfl⟩⟩
end
end Go.Proofs.YtgelalbmhllccaaGreat
/- Contracts of the document's own queue. -/
namespace Go.Proofs.YtgelalbmhllccaaGreat
open Go.RowKit
set_option linter.unusedVariables false
set_option maxRecDepth 100000 in
set_option maxHeartbeats 1000000 in
theorem rsame_any (n m ca cb : Nat) (A A' : Option Addr) (F F' : Nat → Prop) (rs rs' : List RowV) (w : World) (h : RowsIn w F A n rs) (h' : RowsIn w F' A' m rs') (hF : ∀ b, F b → b < w.heap.size) (hF' : ∀ b, F' b → b < w.heap.size) (hn : n ≤ 140737488355328) :
    Calls Tryz.prog 14 #[.slice A n ca, .slice A' m cb] w fun e w' => e = .returned (.bool (decide (rowsXs rs = rowsXs rs'))) ∧ ∃ k, w' = w.drewN k := by
  have H := Lib.hid h
  have H' := Lib.hid h'
  by_cases hnm : n = m
  · subst hnm
    clear h h'
    go_enter Tryz.func14, Tryz.ntmps14
    go_wp2_with fail
    go_loopw [5] (fun i wr => ∃ (j k : Nat), j ≤ n ∧ i = .int .i64 j ∧ wr = w.drewN k ∧ rowsXs (rs.take j) = rowsXs (rs'.take j)) (fun i _ => n - (intOf i).toNat)
    case atStart => exact ⟨0, 0, by omega, rfl, rfl, rfl⟩
    case round =>
      obtain ⟨j, k, hj, rfl, rfl, he⟩ := hrel
      have HE := Lib.hid he
      clear he
      by_cases hlt : j < n
      · obtain ⟨b, off, r, rfl, hb, hr, hc, hl⟩ := H.out.at_ hlt
        obtain ⟨b', off', r', rfl, hb', hr', hc', hl'⟩ := H'.out.at_ hlt
        have HR := Lib.hid hr
        have HR' := Lib.hid hr'
        have t1 := hl.str hF
        have t2 := hl'.str hF'
        have d1 : ∀ q, (w.drewN q).cell? ⟨b, off + j, none⟩ = some (.slice r.A r.n r.c) := fun _ => hc
        have d2 : ∀ q, (w.drewN q).cell? ⟨b', off' + j, none⟩ = some (.slice r'.A r'.n r'.c) := fun _ => hc'
        have e1 : (0 : Int) ≤ (j : Int) := Int.natCast_nonneg _
        have e2 : (j : Int) < (n : Int) := by omega
        have hall := hl.2.1
        have hall' := hl'.2.1
        by_cases hx : r.xs = r'.xs
        · have q0 := strN_eq hx
          have HX := Lib.hid hx
          clear hr hr' hl hl' hc hc' hall hall' hx
          go_wp2_with fail
          go_quiet (fail)
          go_wp2_with fail
          go_roundw
          case rel => exact ⟨j + 1, k + nq, by omega, by go_num, rfl, by rw [rowsXs_take HR.out, rowsXs_take HR'.out, HE.out, HX.out]⟩
          case measure => simp [intOf]; omega
        · have q0 := strN_ne hall hall' hx
          have HC : Hid (decide (rowsXs rs = rowsXs rs') = false) := by show _ = _; exact decide_eq_false (rowsXs_ne hr hr' hx)
          clear hr hr' hl hl' hc hc' hall hall' hx
          go_wp2_with fail
          go_quiet (fail)
          go_wp2_with fail
          go_ret
          exact ⟨by rw [HC.out]; rfl, _, World.drewN_drewN ..⟩
      · obtain rfl : j = n := by omega
        have HC : Hid (decide (rowsXs rs = rowsXs rs') = true) := by
          show _ = _
          have e := HE.out
          rw [List.take_of_length_le (by rw [H.out.1]; exact Nat.le_refl _), List.take_of_length_le (by rw [H'.out.1]; exact Nat.le_refl _)] at e
          exact decide_eq_true e
        go_wp2_with fail
        go_ret
        exact ⟨by rw [HC.out]; rfl, _, rfl⟩
  · have HC : Hid (decide (rowsXs rs = rowsXs rs') = false) := by
      show _ = _
      exact decide_eq_false fun e => hnm (by rw [← h.1, ← h'.1]; have := congrArg List.length e; simpa [rowsXs] using this)
    have b1 : ((n : Int) != (m : Int)) = true := by rw [bne_iff_ne]; omega
    clear h h' hnm
    go_enter Tryz.func14, Tryz.ntmps14
    go_wp2_with fail
    go_ret
    exact ⟨by rw [HC.out]; rfl, 0, rfl⟩
end Go.Proofs.YtgelalbmhllccaaGreat
