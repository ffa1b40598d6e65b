/- The landed step of a reader, through its deferred closure. -/
import Derived.Test.YtgkihfemlbhioaaDoorFcut
import Derived.Test.YtgkihfemlbhioaaDoorLibc
import Derived.Defers
import Derived.StillTailTactics
import Derived.Outline
import Derived.RegionTactic
import Derived.ChangeAlike
namespace Go.Proofs.YtgkihfemlbhioaaDoor
open Go.RowKit
theorem undo_none (a b c d : Addr) (u : FrameMode) (w : World) (h0 : w.cell? a = some (.int .i64 0)) :
    CallsD Tryd.prog 79 #[.pointer (some a), .pointer (some b), .pointer (some c), .pointer (some d)] u w fun e u' w' => u' = u ∧ (e = .returned (.tuple #[]) ∧ w = w') := by
  go_enter_d Tryd.func79, Tryd.ntmps79
  go_wp2
  go_end0
  exact ⟨rfl, rfl⟩
theorem undo_some (a b c d : Addr) (g n k : Nat) (A : Option Addr) (x y : Value) (u : FrameMode) (w : World) (h0 : w.cell? a = some (.int .i64 4)) (h1 : w.cell? b = some (.slice A n k)) (h2 : w.cell? c = some x) (h3 : w.cell? d = some (.pointer (some ⟨g, 0, none⟩)))
    (h4 : w.cell? ⟨g, 1, none⟩ = some y) (f2 : w.frozen? c = false) (f4 : w.frozen? ⟨g, 1, none⟩ = false) (hne : c.block ≠ g) :
    CallsD Tryd.prog 79 #[.pointer (some a), .pointer (some b), .pointer (some c), .pointer (some d)] u w fun e u' w' => u' = u ∧ (e = .returned (.tuple #[]) ∧ w' = (w.setCell c (.slice none 0 0)).setCell ⟨g, 1, none⟩ (.slice A n k)) := by
  have h5 : (w.setCell c (.slice none 0 0)).cell? ⟨g, 1, none⟩ = some y := (World.cell?_setCell_far _ _ _ _ (fun e => hne e)).trans h4
  have f5 : (w.setCell c (.slice none 0 0)).frozen? ⟨g, 1, none⟩ = false := (World.frozen?_setCell _ _ _ _).trans f4
  go_enter_d Tryd.func79, Tryd.ntmps79
  go_wp2
  go_end0
  exact ⟨rfl, rfl⟩
theorem grow_then {a b c : World} {row : Option Nat} (h : a.grownBy b row) (k : Keep b c) : a.grownBy c row :=
  ⟨k.os.trans h.os, k.tape.trans h.tape, k.output.trans h.output, Nat.le_trans h.size k.size, fun i hi hne => (k.block i (Nat.lt_of_lt_of_le hi h.size)).trans (h.block i hi hne)⟩
/-- The reader's block, its second field given anew. -/
theorem two_put (w : World) (g n c n' c' : Nat) (A A' : Option Addr) (h : w.heap[g]? = some (.cells #[.bool true, .slice A n c] 112 (0, 0))) :
    (w.setCell ⟨g, 1, none⟩ (.slice A' n' c')).heap[g]? = some (.cells #[.bool true, .slice A' n' c'] 112 (0, 0)) ∧ w.grownBy (w.setCell ⟨g, 1, none⟩ (.slice A' n' c')) (some g) :=
  ⟨by rw [heap_setCell_same w g 1 _ _ _ h]; rfl, ⟨rfl, rfl, rfl, by simp [World.setCell], fun k _ hk => heap_setCell_other _ _ _ _ fun e => hk (by rw [e])⟩⟩
set_option maxRecDepth 100000 in
theorem step_in (g n c s : Nat) (A : Option Addr) (hs : s ≤ n) (hn : n ≤ c) (w : World) (h : w.heap[g]? = some (.cells #[.bool true, .slice A n c] 112 (0, 0))) :
    Calls Tryd.prog 77 #[.pointer (some ⟨g, 0, none⟩), .int .i64 (s : Int)] w fun e w' => e = .returned (.tuple #[.slice A s c, .int .i64 0]) ∧ w'.heap[g]? = some (.cells #[.bool true, .slice (cutA A c s) (n - s) (c - s)] 112 (0, 0)) ∧ w.grownBy w' (some g) := by
  have hmf : ∀ (fn : Fn) (first cap : Array Value) (w : World), (Instr.makeFunc fn first cap).run Tryd.prog w = .ok (.func fn first cap) w := fun _ _ _ _ => rfl
  have hcut := fun w => run_cut n c s A hs w
  have c1 : w.cell? ⟨g, 1, none⟩ = some (.slice A n c) := by simp [World.cell?, h]
  have f1 : w.frozen? ⟨g, 1, none⟩ = false := by simp [World.frozen?, h]
  have hl := lt_of_block h
  have hl1 : g < w.heap.size + 1 := by omega
  have hl2 : g < w.heap.size + 1 + 1 := by omega
  have hl3 : g < w.heap.size + 1 + 1 + 1 := by omega
  have hl4 : g < w.heap.size + 1 + 1 + 1 + 1 := by omega
  have b1 : (s : Int) ≤ (n : Int) := by omega
  have b2 : min (s : Int) (n : Int) = (s : Int) := by omega
  have b3 : (0 : Int) ≤ (s : Int) := Int.natCast_nonneg _
  have b4 : (s : Int) ≤ (c : Int) := by omega
  have HH := Lib.hid h
  clear h
  go_enter_defers Tryd.func77, Tryd.ntmps77
  go_wp2_with fail
  go_region
  go_wp2_with fail
  have HW := Lib.hid (two_put w g n c (n - s) (c - s) A (cutA A c s) HH.out)
  refine leaves_cons (f := 79) (args := #[.pointer (some ⟨w.heap.size + 1 + 1, 0, none⟩), .pointer (some ⟨w.heap.size + 1 + 1 + 1, 0, none⟩), .pointer (some ⟨w.heap.size + 1, 0, none⟩), .pointer (some ⟨w.heap.size, 0, none⟩)]) (by simp) (by simp [go_sem]) ?_
  refine (undo_none _ _ _ _ .returning _ (by simp [go_sem])).mono ?_
  rintro e u' w'' ⟨rfl, rfl, rfl⟩
  have HK := Lib.hid (((((Keep.refl (w.setCell ⟨g, 1, none⟩ (.slice (cutA A c s) (n - s) (c - s)))).alloc #[.pointer (some ⟨g, 0, none⟩)] 102).alloc #[.slice A s c] 23).alloc #[.int .i64 0] 33).alloc #[.slice A n c] 23).drew
  refine ⟨.tuple #[.slice A s c, .int .i64 0], by simp [results, Tryd.results77, go_sem], rfl, ?_, ?_⟩
  · exact (HK.out.block g (lt_of_block HW.out.1)).trans HW.out.1
  · exact grow_then HW.out.2 HK.out
set_option maxRecDepth 100000 in
theorem step_short (g n c : Nat) (s : Int) (A : Option Addr) (hs : (n : Int) < s) (hn : n ≤ c) (w : World) (h : w.heap[g]? = some (.cells #[.bool true, .slice A n c] 112 (0, 0))) :
    Calls Tryd.prog 77 #[.pointer (some ⟨g, 0, none⟩), .int .i64 s] w fun e w' => e = .returned (.tuple #[.slice none 0 0, .int .i64 4]) ∧ w'.heap[g]? = some (.cells #[.bool true, .slice A n c] 112 (0, 0)) ∧ w.grownBy w' (some g) := by
  have hmf : ∀ (fn : Fn) (first cap : Array Value) (w : World), (Instr.makeFunc fn first cap).run Tryd.prog w = .ok (.func fn first cap) w := fun _ _ _ _ => rfl
  have hcut := fun w => run_cut n c n A (Nat.le_refl _) w
  have c1 : w.cell? ⟨g, 1, none⟩ = some (.slice A n c) := by simp [World.cell?, h]
  have f1 : w.frozen? ⟨g, 1, none⟩ = false := by simp [World.frozen?, h]
  have hl := lt_of_block h
  have hl1 : g < w.heap.size + 1 := by omega
  have hl2 : g < w.heap.size + 1 + 1 := by omega
  have hl3 : g < w.heap.size + 1 + 1 + 1 := by omega
  have hl4 : g < w.heap.size + 1 + 1 + 1 + 1 := by omega
  have b2 : min s (n : Int) = (n : Int) := by omega
  have b3 : (0 : Int) ≤ (n : Int) := Int.natCast_nonneg _
  have b4 : (n : Int) ≤ (c : Int) := by omega
  have HH := Lib.hid h
  clear h
  go_enter_defers Tryd.func77, Tryd.ntmps77
  go_wp2_with fail
  go_region
  go_wp2_with fail
  have HW := Lib.hid (two_put w g n c 0 (c - n) A (cutA A c n) HH.out)
  have HK := Lib.hid (((((Keep.refl (w.setCell ⟨g, 1, none⟩ (.slice (cutA A c n) 0 (c - n)))).alloc #[.pointer (some ⟨g, 0, none⟩)] 102).alloc #[.slice A n c] 23).alloc #[.int .i64 4] 33).alloc #[.slice A n c] 23).drew
  have HF : Hid (w.heap.size = (w.setCell ⟨g, 1, none⟩ (.slice (cutA A c n) 0 (c - n))).heap.size) := by show _ = _; simp
  clear c1 f1
  have hne : w.heap.size + 1 ≠ g := by omega
  have hd1 : ¬ (w.heap.size + 1 = g) := by omega
  have hd2 : ¬ (w.heap.size + 1 + 1 = g) := by omega
  refine leaves_cons (f := 79) (args := #[.pointer (some ⟨w.heap.size + 1 + 1, 0, none⟩), .pointer (some ⟨w.heap.size + 1 + 1 + 1, 0, none⟩), .pointer (some ⟨w.heap.size + 1, 0, none⟩), .pointer (some ⟨w.heap.size, 0, none⟩)]) (by simp) (by simp [go_sem]) ?_
  refine (undo_some _ _ _ _ g n c A (.slice A n c) (.slice (cutA A c n) 0 (c - n)) .returning _ (by simp [go_sem]) (by simp [go_sem]) (by simp [go_sem]) (by simp [go_sem]) ?_ (by simp [go_sem]) ?_ hne).mono ?_
  · have e := (HK.out.block g (lt_of_block HW.out.1)).trans HW.out.1
    simp only [World.cell?, e]; rfl
  · have e := (HK.out.block g (lt_of_block HW.out.1)).trans HW.out.1
    simp only [World.frozen?, e]; rfl
  rintro e u' w'' ⟨rfl, rfl, rfl⟩
  have K2 := HK.out.setCell (a := ⟨w.heap.size + 1, 0, none⟩) (by rw [← HF.out]; exact Nat.le_succ _) (.slice none 0 0)
  have e2 := two_put _ g 0 (c - n) n c (cutA A c n) A ((K2.block g (lt_of_block HW.out.1)).trans HW.out.1)
  exact ⟨.tuple #[.slice none 0 0, .int .i64 4], by simp [results, Tryd.results77, go_sem], rfl, e2.1, (grow_then HW.out.2 K2).trans e2.2⟩
end Go.Proofs.YtgkihfemlbhioaaDoor
