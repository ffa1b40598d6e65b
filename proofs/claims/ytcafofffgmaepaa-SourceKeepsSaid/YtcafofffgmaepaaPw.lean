/- What the contracts of layer 3 lean on. -/
import Derived.Test.YtcafofffgmaepaaPd
import Derived.Test.YtcafofffgmaepaaForm
import Derived.OneCell
import Derived.Test.YtcafofffgmaepaaLibc
import Derived.Defers
import Derived.StillTailTactics
import Derived.Outline
import Derived.RegionTactic
import Derived.ChangeAlike
namespace Go.Proofs.Ytcafofffgmaepaa
open Go.RowKit
/-- What laying a number answers. -/
def laysOf (xs : List Nat) (v s : Nat) : List Nat := if v < 256 ^ s then xs ++ formN s v else []
def laysErr (v s : Nat) : Int := if v < 256 ^ s then 0 else 3
/-- The address of a slice cut at its head. -/
def cutA (A : Option Addr) (c s : Nat) : Option Addr := if c = s then A else A.map (·.add s)
theorem run_cut (n c s : Nat) (A : Option Addr) (hs : s ≤ n) (w : World) :
    (Instr.slice 22 (.slice A n c) (some (.int .i64 (s : Int))) none none).run Try.prog w = .ok (.slice (cutA A c s) (n - s) (c - s)) w := by
  have ht : Try.prog.underlying 22 = some (.slice (Try.prog.elem 22)) := by kernel_rfl
  obtain ⟨i0, hi0, hz0, hz1, hz2⟩ := info_parts info5
  have he : Try.prog.elem 22 = 5 := by kernel_rfl
  rw [run_slice_l (P := Try.prog) (w := w) 22 A n c ht .i64 s (by omega) (by omega), he]
  simp [sizeOf, typeInfo, hi0, hz1, sliced, cutA]
theorem Bytes.drop {w : World} {B n c s : Nat} {A : Option Addr} {xs : List Nat} (h : Bytes w B A n xs) (hc : n ≤ c) : Bytes w B (cutA A c s) (n - s) (xs.drop s) := by
  refine ⟨by rw [List.length_drop, h.1], fun x hx => h.2.1 x (List.mem_of_mem_drop hx), fun hp => ?_⟩
  obtain ⟨b, off, rfl, hb, hcell⟩ := h.2.2 (by omega)
  refine ⟨b, off + s, ?_, hb, fun i hi => ?_⟩
  · rw [cutA, if_neg (by omega)]
    simp only [Option.map_some, Addr.add]
    split <;> simp_all
  · rw [Nat.add_assoc, hcell (s + i) (by omega)]
    simp [List.getD_eq_getElem?_getD, List.getElem?_drop]
theorem valN_lt64 (L : List Nat) (s : Nat) (h : AllB L) (hs : s ≤ 8) : valN (L.take s) < 18446744073709551616 := by
  have h1 := valN_lt (L.take s) (h.take s)
  have h2 : 256 ^ (L.take s).length ≤ 256 ^ 8 := Nat.pow_le_pow_right (by decide) (by rw [List.length_take]; omega)
  exact Nat.lt_of_lt_of_le h1 h2
end Go.Proofs.Ytcafofffgmaepaa
/- The landed step of a reader, through its deferred closure. -/
namespace Go.Proofs.Ytcafofffgmaepaa
open Go.RowKit
theorem undo_none (a b c d : Addr) (u : FrameMode) (w : World) (h0 : w.cell? a = some (.int .i64 0)) :
    CallsD Try.prog 120 #[.pointer (some a), .pointer (some b), .pointer (some c), .pointer (some d)] u w fun e u' w' => u' = u ∧ (e = .returned (.tuple #[]) ∧ w = w') := by
  go_enter_d Try.func120, Try.ntmps120
  go_wp2
  go_end0
  exact ⟨rfl, rfl⟩
theorem undo_some (a b c d : Addr) (g n k : Nat) (A : Option Addr) (x y : Value) (u : FrameMode) (w : World) (h0 : w.cell? a = some (.int .i64 4)) (h1 : w.cell? b = some (.slice A n k)) (h2 : w.cell? c = some x) (h3 : w.cell? d = some (.pointer (some ⟨g, 0, none⟩)))
    (h4 : w.cell? ⟨g, 1, none⟩ = some y) (f2 : w.frozen? c = false) (f4 : w.frozen? ⟨g, 1, none⟩ = false) (hne : c.block ≠ g) :
    CallsD Try.prog 120 #[.pointer (some a), .pointer (some b), .pointer (some c), .pointer (some d)] u w fun e u' w' => u' = u ∧ (e = .returned (.tuple #[]) ∧ w' = (w.setCell c (.slice none 0 0)).setCell ⟨g, 1, none⟩ (.slice A n k)) := by
  have h5 : (w.setCell c (.slice none 0 0)).cell? ⟨g, 1, none⟩ = some y := (World.cell?_setCell_far _ _ _ _ (fun e => hne e)).trans h4
  have f5 : (w.setCell c (.slice none 0 0)).frozen? ⟨g, 1, none⟩ = false := (World.frozen?_setCell _ _ _ _).trans f4
  go_enter_d Try.func120, Try.ntmps120
  go_wp2
  go_end0
  exact ⟨rfl, rfl⟩
theorem grow_then {a b c : World} {row : Option Nat} (h : a.grownBy b row) (k : Keep b c) : a.grownBy c row :=
  ⟨k.os.trans h.os, k.tape.trans h.tape, k.output.trans h.output, Nat.le_trans h.size k.size, fun i hi hne => (k.block i (Nat.lt_of_lt_of_le hi h.size)).trans (h.block i hi hne)⟩
/-- The reader's block, its second field given anew. -/
theorem two_put (w : World) (g n c n' c' : Nat) (A A' : Option Addr) (h : w.heap[g]? = some (.cells #[.bool true, .slice A n c] 141 (0, 0))) :
    (w.setCell ⟨g, 1, none⟩ (.slice A' n' c')).heap[g]? = some (.cells #[.bool true, .slice A' n' c'] 141 (0, 0)) ∧ w.grownBy (w.setCell ⟨g, 1, none⟩ (.slice A' n' c')) (some g) :=
  ⟨by rw [heap_setCell_same w g 1 _ _ _ h]; rfl, ⟨rfl, rfl, rfl, by simp [World.setCell], fun k _ hk => heap_setCell_other _ _ _ _ fun e => hk (by rw [e])⟩⟩
set_option maxRecDepth 100000 in
theorem step_in (g n c s : Nat) (A : Option Addr) (hs : s ≤ n) (hn : n ≤ c) (w : World) (h : w.heap[g]? = some (.cells #[.bool true, .slice A n c] 141 (0, 0))) :
    Calls Try.prog 106 #[.pointer (some ⟨g, 0, none⟩), .int .i64 (s : Int)] w fun e w' => e = .returned (.tuple #[.slice A s c, .int .i64 0]) ∧ w'.heap[g]? = some (.cells #[.bool true, .slice (cutA A c s) (n - s) (c - s)] 141 (0, 0)) ∧ w.grownBy w' (some g) := by
  have hmf : ∀ (fn : Fn) (first cap : Array Value) (w : World), (Instr.makeFunc fn first cap).run Try.prog w = .ok (.func fn first cap) w := fun _ _ _ _ => rfl
  have hcut := fun w => run_cut n c s A hs w
  have c1 : w.cell? ⟨g, 1, none⟩ = some (.slice A n c) := by simp [World.cell?, h]
  have f1 : w.frozen? ⟨g, 1, none⟩ = false := by simp [World.frozen?, h]
  have hl := lt_of_block h
  have hl1 : g < w.heap.size + 1 := by omega
  have hl2 : g < w.heap.size + 1 + 1 := by omega
  have hl3 : g < w.heap.size + 1 + 1 + 1 := by omega
  have hl4 : g < w.heap.size + 1 + 1 + 1 + 1 := by omega
  have b1 : (s : Int) ≤ (n : Int) := by omega
  have b2 : min (s : Int) (n : Int) = (s : Int) := by omega
  have b3 : (0 : Int) ≤ (s : Int) := Int.natCast_nonneg _
  have b4 : (s : Int) ≤ (c : Int) := by omega
  have HH := Lib.hid h
  clear h
  go_enter_defers Try.func106, Try.ntmps106
  go_wp2_with fail
  go_region
  go_wp2_with fail
  have HW := Lib.hid (two_put w g n c (n - s) (c - s) A (cutA A c s) HH.out)
  refine leaves_cons (f := 120) (args := #[.pointer (some ⟨w.heap.size + 1 + 1, 0, none⟩), .pointer (some ⟨w.heap.size + 1 + 1 + 1, 0, none⟩), .pointer (some ⟨w.heap.size + 1, 0, none⟩), .pointer (some ⟨w.heap.size, 0, none⟩)]) (by simp) (by simp [go_sem]) ?_
  refine (undo_none _ _ _ _ .returning _ (by simp [go_sem])).mono ?_
  rintro e u' w'' ⟨rfl, rfl, rfl⟩
  have HK := Lib.hid (((((Keep.refl (w.setCell ⟨g, 1, none⟩ (.slice (cutA A c s) (n - s) (c - s)))).alloc #[.pointer (some ⟨g, 0, none⟩)] 113).alloc #[.slice A s c] 22).alloc #[.int .i64 0] 33).alloc #[.slice A n c] 22).drew
  refine ⟨.tuple #[.slice A s c, .int .i64 0], by simp [results, Try.results106, go_sem], rfl, ?_, ?_⟩
  · exact (HK.out.block g (lt_of_block HW.out.1)).trans HW.out.1
  · exact grow_then HW.out.2 HK.out
set_option maxRecDepth 100000 in
theorem step_short (g n c : Nat) (s : Int) (A : Option Addr) (hs : (n : Int) < s) (hn : n ≤ c) (w : World) (h : w.heap[g]? = some (.cells #[.bool true, .slice A n c] 141 (0, 0))) :
    Calls Try.prog 106 #[.pointer (some ⟨g, 0, none⟩), .int .i64 s] w fun e w' => e = .returned (.tuple #[.slice none 0 0, .int .i64 4]) ∧ w'.heap[g]? = some (.cells #[.bool true, .slice A n c] 141 (0, 0)) ∧ w.grownBy w' (some g) := by
  have hmf : ∀ (fn : Fn) (first cap : Array Value) (w : World), (Instr.makeFunc fn first cap).run Try.prog w = .ok (.func fn first cap) w := fun _ _ _ _ => rfl
  have hcut := fun w => run_cut n c n A (Nat.le_refl _) w
  have c1 : w.cell? ⟨g, 1, none⟩ = some (.slice A n c) := by simp [World.cell?, h]
  have f1 : w.frozen? ⟨g, 1, none⟩ = false := by simp [World.frozen?, h]
  have hl := lt_of_block h
  have hl1 : g < w.heap.size + 1 := by omega
  have hl2 : g < w.heap.size + 1 + 1 := by omega
  have hl3 : g < w.heap.size + 1 + 1 + 1 := by omega
  have hl4 : g < w.heap.size + 1 + 1 + 1 + 1 := by omega
  have b2 : min s (n : Int) = (n : Int) := by omega
  have b3 : (0 : Int) ≤ (n : Int) := Int.natCast_nonneg _
  have b4 : (n : Int) ≤ (c : Int) := by omega
  have HH := Lib.hid h
  clear h
  go_enter_defers Try.func106, Try.ntmps106
  go_wp2_with fail
  go_region
  go_wp2_with fail
  have HW := Lib.hid (two_put w g n c 0 (c - n) A (cutA A c n) HH.out)
  have HK := Lib.hid (((((Keep.refl (w.setCell ⟨g, 1, none⟩ (.slice (cutA A c n) 0 (c - n)))).alloc #[.pointer (some ⟨g, 0, none⟩)] 113).alloc #[.slice A n c] 22).alloc #[.int .i64 4] 33).alloc #[.slice A n c] 22).drew
  have HF : Hid (w.heap.size = (w.setCell ⟨g, 1, none⟩ (.slice (cutA A c n) 0 (c - n))).heap.size) := by show _ = _; simp
  clear c1 f1
  have hne : w.heap.size + 1 ≠ g := by omega
  have hd1 : ¬ (w.heap.size + 1 = g) := by omega
  have hd2 : ¬ (w.heap.size + 1 + 1 = g) := by omega
  refine leaves_cons (f := 120) (args := #[.pointer (some ⟨w.heap.size + 1 + 1, 0, none⟩), .pointer (some ⟨w.heap.size + 1 + 1 + 1, 0, none⟩), .pointer (some ⟨w.heap.size + 1, 0, none⟩), .pointer (some ⟨w.heap.size, 0, none⟩)]) (by simp) (by simp [go_sem]) ?_
  refine (undo_some _ _ _ _ g n c A (.slice A n c) (.slice (cutA A c n) 0 (c - n)) .returning _ (by simp [go_sem]) (by simp [go_sem]) (by simp [go_sem]) (by simp [go_sem]) ?_ (by simp [go_sem]) ?_ hne).mono ?_
  · have e := (HK.out.block g (lt_of_block HW.out.1)).trans HW.out.1
    simp only [World.cell?, e]; rfl
  · have e := (HK.out.block g (lt_of_block HW.out.1)).trans HW.out.1
    simp only [World.frozen?, e]; rfl
  rintro e u' w'' ⟨rfl, rfl, rfl⟩
  have K2 := HK.out.setCell (a := ⟨w.heap.size + 1, 0, none⟩) (by rw [← HF.out]; exact Nat.le_succ _) (.slice none 0 0)
  have e2 := two_put _ g 0 (c - n) n c (cutA A c n) A ((K2.block g (lt_of_block HW.out.1)).trans HW.out.1)
  exact ⟨.tuple #[.slice none 0 0, .int .i64 4], by simp [results, Try.results106, go_sem], rfl, e2.1, (grow_then HW.out.2 K2).trans e2.2⟩
end Go.Proofs.Ytcafofffgmaepaa
/- Contracts of the landed code of layer 3. -/
namespace Go.Proofs.Ytcafofffgmaepaa
open Go.RowKit
/-- What laying a number answers, any size. -/
def numOf (xs : List Nat) (v : Nat) (s : Int) : List Nat := if s < 1 ∨ 8 < s then [] else laysOf xs v s.toNat
def numErr (v : Nat) (s : Int) : Int := if s < 1 ∨ 8 < s then 1 else laysErr v s.toNat
/-- What reading a number answers, and leaves. -/
def readErr (L : List Nat) (s : Int) : Int := if s < 1 ∨ 8 < s then 1 else if L.length < s.toNat then 4 else 0
def readVal (L : List Nat) (s : Int) : Nat := if readErr L s = 0 then valN (L.take s.toNat) else 0
def readLeft (L : List Nat) (s : Int) : List Nat := if readErr L s = 0 then L.drop s.toNat else L
/-- What taking bytes answers, and leaves. -/
def takeErr (L : List Nat) (s : Int) : Int := if s < 0 then 1 else if L.length < s.toNat then 4 else 0
def takeVal (L : List Nat) (s : Int) : List Nat := if takeErr L s = 0 then L.take s.toNat else []
def takeLeft (L : List Nat) (s : Int) : List Nat := if takeErr L s = 0 then L.drop s.toNat else L
def endErr (L : List Nat) : Int := if L = [] then 0 else 3
/-- A reader at g with L left; F tells its blocks. -/
def ReadR (w : World) (F : Nat → Prop) (g : Nat) (L : List Nat) : Prop :=
  F g ∧ (∀ b, F b → b < w.heap.size) ∧ AllB L ∧ ∃ A c, w.heap[g]? = some (.cells #[.bool true, .slice A L.length c] 141 (0, 0)) ∧ (L.length ≤ c ∧ L.length ≤ 140737488355328) ∧ (0 < L.length → ∃ b off, A = some ⟨b, off, none⟩ ∧ F b ∧ b ≠ g ∧ ∀ i, i < L.length → w.cell? ⟨b, off + i, none⟩ = some (.int .u8 ((L.getD i 0 : Nat) : Int)))
theorem ReadR.at_ {w : World} {F : Nat → Prop} {g : Nat} {L : List Nat} (h : ReadR w F g L) : F g := h.1
theorem ReadR.lt {w : World} {F : Nat → Prop} {g b : Nat} {L : List Nat} (h : ReadR w F g L) (hb : F b) : b < w.heap.size := h.2.1 b hb
theorem ReadR.all {w : World} {F : Nat → Prop} {g : Nat} {L : List Nat} (h : ReadR w F g L) : AllB L := h.2.2.1
theorem ReadR.bound {w : World} {F : Nat → Prop} {g : Nat} {L : List Nat} (h : ReadR w F g L) : L.length ≤ 140737488355328 := by
  obtain ⟨_, _, _, _, _, _, h, _⟩ := h; exact h.2
/-- What lies elsewhere may turn. -/
theorem ReadR.grown {w w' : World} {F : Nat → Prop} {g : Nat} {row : Option Nat} {L : List Nat} (h : ReadR w F g L) (k : w.grownBy w' row) (hn : ∀ b, row = some b → ¬ F b) : ReadR w' F g L := by
  obtain ⟨h1, h2, h3, A, c, h4, h5, h6⟩ := h
  have hb : ∀ b, F b → w'.heap[b]? = w.heap[b]? := fun b hb => k.block b (h2 b hb) fun e => hn b e.symm hb
  refine ⟨h1, fun b hb => Nat.lt_of_lt_of_le (h2 b hb) k.size, h3, A, c, by rw [hb g h1]; exact h4, h5, fun hp => ?_⟩
  obtain ⟨b, off, e, hf, hne, hc⟩ := h6 hp
  refine ⟨b, off, e, hf, hne, fun i hi => ?_⟩
  rw [← hc i hi]
  simp only [World.cell?, hb b hf]
theorem ReadR.keep {w w' : World} {F : Nat → Prop} {g : Nat} {L : List Nat} (h : ReadR w F g L) (k : Keep w w') : ReadR w' F g L := h.grown (row := none) ⟨k.os, k.tape, k.output, k.size, fun i hi _ => k.block i hi⟩ (fun b e => by cases e)
theorem size_yes (s : Int) (h1 : 1 ≤ s) (h8 : s ≤ 8) (w : World) : Calls Try.prog 105 #[.int .i64 s] w fun e w' => e = .returned (.bool true) ∧ w = w' := by
  go_enter Try.func105, Try.ntmps105
  go_wp2_with fail
  go_ret
  exact ⟨rfl, rfl⟩
theorem size_no (s : Int) (h : s < 1 ∨ 8 < s) (w : World) : Calls Try.prog 105 #[.int .i64 s] w fun e w' => e = .returned (.bool false) ∧ w = w' := by
  by_cases h1 : s < 1
  · go_enter Try.func105, Try.ntmps105
    go_wp2_with fail
    go_ret
    exact ⟨rfl, rfl⟩
  · have h2 : 8 < s := by omega
    have h3 : 1 ≤ s := by omega
    have h4 : decide (s ≤ 8) = false := decide_eq_false (by omega)
    clear h h1 h2
    go_enter Try.func105, Try.ntmps105
    go_wp2_with fail
    go_ret
    exact ⟨rfl, rfl⟩
theorem made_nil (w : World) : Calls Try.prog 104 #[.pointer none] w fun e w' => e = .returned (.bool false) ∧ w = w' := by
  go_enter Try.func104, Try.ntmps104
  go_wp2_with fail
  go_ret
  exact ⟨rfl, rfl⟩
theorem made_at (g : Nat) (b : Bool) (w : World) (h : w.cell? ⟨g, 0, none⟩ = some (.bool b)) : Calls Try.prog 104 #[.pointer (some ⟨g, 0, none⟩)] w fun e w' => e = .returned (.bool b) ∧ w = w' := by
  go_enter Try.func104, Try.ntmps104
  go_wp2_with fail
  go_ret
  exact ⟨rfl, rfl⟩
/-- A block of bytes, whole. -/
def Blk (w : World) (g : Nat) (t : TypeId) (xs : List Nat) : Prop := w.heap[g]? = some (.cells (u8s xs).toArray t (0, 0))
theorem Blk.cell {w : World} {g t i : Nat} {xs : List Nat} (h : Blk w g t xs) (hi : i < xs.length) : w.cell? ⟨g, i, none⟩ = some (.int .u8 ((xs.getD i 0 : Nat) : Int)) := by
  have h' : w.heap[g]? = some (.cells (u8s xs).toArray t (0, 0)) := h
  rw [cell_of_row w g i _ _ _ h', List.getElem?_toArray, u8s_get]
  simp [List.getD, hi]
theorem Blk.frozen {w : World} {g t : Nat} {xs : List Nat} (h : Blk w g t xs) (i : Nat) : w.frozen? ⟨g, i, none⟩ = false := by
  have h' : w.heap[g]? = some (.cells (u8s xs).toArray t (0, 0)) := h
  simp [World.frozen?, h']
theorem Blk.set {w : World} {g t i v : Nat} {xs : List Nat} (h : Blk w g t xs) : Blk (w.setCell ⟨g, i, none⟩ (.int .u8 (v : Int))) g t (xs.set i v) := by
  show _ = _
  rw [heap_setCell_same w g i _ _ _ h, ← u8s_set]
  simp
theorem Blk.bytes {w : World} {g t : Nat} {xs : List Nat} (h : Blk w g t xs) (ha : AllB xs) : Bytes w w.heap.size (some ⟨g, 0, none⟩) xs.length xs :=
  ⟨rfl, ha, fun _ => ⟨g, 0, rfl, lt_of_block h, fun i hi => by rw [Nat.zero_add]; exact h.cell hi⟩⟩
theorem wnum_out (ca m v : Nat) (A : Option Addr) (s : Int) (h : s < 1 ∨ 8 < s) (w : World) :
    Calls Try.prog 112 #[.slice A m ca, .int .u64 v, .int .i64 s] w (NewPair w [] 1) := by
  have H := Lib.hid h
  clear h
  go_enter Try.func112, Try.ntmps112
  go_wp2_with fail
  refine (size_no s H.out _).mono ?_
  rintro e w1 ⟨rfl, rfl⟩
  go_wp2_with fail
  go_ret2
  exact NewPair.nil w 1
set_option maxRecDepth 100000 in
set_option maxHeartbeats 1000000 in
theorem wnum_in (B m ca v s : Nat) (A : Option Addr) (xs : List Nat) (w : World) (h : Bytes w B A m xs) (hB : B ≤ w.heap.size) (hm : m ≤ 140737488351232) (hs1 : 1 ≤ s) (hs8 : s ≤ 8) (hv : v < 18446744073709551616) :
    Calls Try.prog 112 #[.slice A m ca, .int .u64 v, .int .i64 s] w (NewPair w (laysOf xs v s) (laysErr v s)) := by
  have HH := Lib.hid h
  clear h
  go_enter Try.func112, Try.ntmps112
  go_wp2_with fail
  refine (size_yes s (by omega) (by omega) _).mono ?_
  rintro e w1 ⟨rfl, rfl⟩
  have h0 : Hid (Blk (w.alloc (.cells #[.int .u8 0, .int .u8 0, .int .u8 0, .int .u8 0, .int .u8 0, .int .u8 0, .int .u8 0, .int .u8 0] 151)) w.heap.size 151 (laidN s v 0 ++ List.replicate (8 - s) 0)) := by
    show _ = _
    rw [heap_alloc_new, laidN_zero, List.replicate_append_replicate, show s + (8 - s) = 8 by omega]
    rfl
  go_wp2_with fail
  go_loopw [1, 9] (fun nv i wr => ∃ (j : Nat), j ≤ s ∧ nv = .int .u64 (v / 256 ^ j : Nat) ∧ i = .int .i64 ((s : Int) - 1 - (j : Int)) ∧ Blk wr w.heap.size 151 (laidN s v j ++ List.replicate (8 - s) 0) ∧ Keep w wr) (fun _ i _ => (intOf i + 1).toNat)
  case atStart => exact ⟨0, by omega, by simp, by simp, h0.out, (Keep.refl w).alloc _ _⟩
  case round =>
    clear h0
    obtain ⟨j, hj, rfl, rfl, hblk, hkeep⟩ := hrel
    by_cases hlt : j < s
    · obtain ⟨t, ht⟩ : ∃ t, s - 1 - j = t := ⟨_, rfl⟩
      have e1 : (s : Int) - 1 - (j : Int) = (t : Int) := by omega
      obtain ⟨q, hq⟩ : ∃ q, v / 256 ^ j = q := ⟨_, rfl⟩
      obtain ⟨q', hq'⟩ : ∃ q', v / 256 ^ (j + 1) = q' := ⟨_, rfl⟩
      obtain ⟨d, hd⟩ : ∃ d, q % 256 = d := ⟨_, rfl⟩
      have d2 : d < 256 := by omega
      have e3 : (q : Int) % 256 = (d : Int) := by omega
      have e5 : (q : Int) / 256 = (q' : Int) := by
        have : q' = q / 256 := by rw [← hq', ← hq, Nat.pow_succ, Nat.div_div_eq_div_mul]
        omega
      have q64 : q < 18446744073709551616 := Nat.lt_of_le_of_lt (by rw [← hq]; exact Nat.div_le_self _ _) hv
      have hc := hblk.cell (i := t) (by rw [List.length_append, laidN_length, List.length_replicate]; omega)
      have hf := hblk.frozen t
      have hs := hblk.set (i := t) (v := d)
      rw [List.set_append_left _ _ (by rw [laidN_length]; omega), ← ht, ← hd, ← hq, laidN_set s v j hlt, hq, hd, ht] at hs
      have HS := Lib.hid hs
      have HK := Lib.hid (hkeep.setCell (a := ⟨w.heap.size, t, none⟩) (Nat.le_refl _) (.int .u8 (d : Int)))
      have HQ := Lib.hid hq'
      have HT := Lib.hid ht
      rw [hq]
      rw [e1]
      generalize (laidN s v j ++ List.replicate (8 - s) 0).getD t 0 = z at hc
      have x1 : (0 : Int) ≤ (t : Int) := Int.natCast_nonneg _
      have x3 : (t : Int) < 8 := by omega
      clear hs hblk hkeep hq hq' hd ht e1
      go_wp2_with fail
      go_roundw
      case rel => exact ⟨j + 1, by omega, by rw [HQ.out], by have := HT.out; congr 1; omega, HS.out, HK.out⟩
      case measure => simp [intOf]
    · obtain rfl : s = j := by omega
      rw [laidN_all] at hblk
      have e1 : (s : Int) - 1 - (s : Int) = -1 := by omega
      rw [e1]
      clear e1
      by_cases hz : v < 256 ^ s
      · have b3 : (((v / 256 ^ s : Nat) : Int) != 0) = false := by rw [Nat.div_eq_of_lt hz]; rfl
        have E1 : Hid (laysOf xs v s = xs ++ formN s v) := by show _ = _; rw [laysOf, if_pos hz]
        have E2 : Hid (laysErr v s = 0) := by show _ = _; rw [laysErr, if_pos hz]
        have hby := hblk.bytes ((formN_all s v).append (AllB.zeros _))
        have hby2 := hby.cut (m := s) (by rw [List.length_append, formN_length]; omega)
        rw [List.take_left' (formN_length s v)] at hby2
        have HR := Lib.hid (RowsUp.lit (w := wr) rfl 22 2 [⟨A, m, ca, xs⟩, ⟨some ⟨w.heap.size, 0, none⟩, s, 8, formN s v⟩] #[.slice A m ca, .slice (some ⟨w.heap.size, 0, none⟩) s 8] rfl rfl (fun r hr => by
          simp only [List.mem_cons, List.not_mem_nil, or_false] at hr
          rcases hr with rfl | rfl
          · exact (HH.out.keep hB hkeep).mono (Nat.le_trans hB hkeep.size)
          · exact hby2))
        have HK := Lib.hid hkeep
        generalize v / 256 ^ s = q at *
        have x1 : (s : Int) ≤ 8 := by omega
        clear hz hby hby2 hblk hkeep
        go_wp2_with fail
        refine (concat_any _ 2 _ _ _ _ HR.out (by simp) (by omega) (by simp [sizesN]; omega)).mono ?_
        rintro e w2 ⟨A2, n2, c2, rfl, o2, k2⟩
        have HO := Lib.hid (o2.lower (base' := w.heap.size) (by have := HK.out.size; simp; omega))
        have HK2 := Lib.hid ((HK.out.alloc _ _).trans k2)
        clear o2 k2
        go_wp2_with fail
        go_ret2
        rw [E1.out, E2.out]
        exact ⟨_, _, _, rfl, by simpa [joinN] using HO.out, HK2.out⟩
      · have b3 : (((v / 256 ^ s : Nat) : Int) != 0) = true := by
          have : 0 < v / 256 ^ s := Nat.div_pos (by omega) (Nat.pow_pos (by decide))
          rw [bne_iff_ne]; omega
        have E1 : Hid (laysOf xs v s = []) := by show _ = _; rw [laysOf, if_neg hz]
        have E2 : Hid (laysErr v s = 3) := by show _ = _; rw [laysErr, if_neg hz]
        have HK := Lib.hid hkeep
        generalize v / 256 ^ s = q at *
        clear hz hblk hkeep
        go_wp2_with fail
        go_ret2
        rw [E1.out, E2.out]
        exact ⟨none, 0, 0, rfl, Own.none_ _ _ _, HK.out⟩
theorem wnum_any (B m ca v : Nat) (s : Int) (A : Option Addr) (xs : List Nat) (w : World) (h : Bytes w B A m xs) (hB : B ≤ w.heap.size) (hm : m ≤ 140737488351232) (hv : v < 18446744073709551616) :
    Calls Try.prog 112 #[.slice A m ca, .int .u64 v, .int .i64 s] w (NewPair w (numOf xs v s) (numErr v s)) := by
  by_cases hs : s < 1 ∨ 8 < s
  · rw [numOf, numErr, if_pos hs, if_pos hs]
    exact wnum_out ca m v A s hs w
  · rw [numOf, numErr, if_neg hs, if_neg hs]
    have e : s = (s.toNat : Int) := by omega
    have h2 := wnum_in B m ca v s.toNat A xs w h hB hm (by omega) (by omega) hv
    rw [← e] at h2
    exact h2
theorem wnew_any (B n c : Nat) (A : Option Addr) (xs : List Nat) (w : World) (h : Bytes w B A n xs) (hB : B ≤ w.heap.size) (hn : n ≤ 140737488355328) :
    Calls Try.prog 70 #[.slice A n c] w fun e w' => ∃ g F, e = .returned (.pointer (some ⟨g, 0, none⟩)) ∧ ReadR w' F g xs ∧ (∀ b, F b → w.heap.size ≤ b) ∧ Keep w w' := by
  go_enter Try.func70, Try.ntmps70
  go_wp2_with fail
  refine (clone_any B n c A xs w h hB hn).mono ?_
  rintro e w1 ⟨A1, n1, c1, rfl, o1, k1⟩
  obtain rfl : xs.length = n1 := o1.length
  have HL : Hid (xs.length ≤ 140737488355328) := by show _ ≤ _; rw [h.1]; exact hn
  have O1 := Lib.hid o1
  have K1 := Lib.hid k1
  clear o1 k1 h
  go_wp2_with fail
  go_ret
  refine ⟨w1.heap.size, fun b => b = w1.heap.size ∨ ((Value.slice A1 xs.length c1).ownBlock = some b), rfl, ⟨Or.inl rfl, ?_, O1.out.2, A1, c1, heap_alloc_new _ _, ⟨own_le O1.out, HL.out⟩, ?_⟩, ?_, K1.out.alloc _ _⟩
  · rintro b (rfl | hb)
    · simp
    · have := (O1.out.1.lt b hb).2
      simp; omega
  · intro hp
    obtain ⟨g, rfl, h1, h2⟩ := O1.out.block hp
    refine ⟨g, 0, rfl, Or.inr rfl, by omega, fun i hi => ?_⟩
    rw [Nat.zero_add]
    exact (O1.out.alloc _).cell hi
  · rintro b (rfl | hb)
    · exact K1.out.size
    · exact O1.out.rowLe b hb
/-- What is left, as bytes. -/
theorem ReadR.bytes {w : World} {g : Nat} {L : List Nat} {A : Option Addr} {F : Nat → Prop} (ha : AllB L) (hF : ∀ b, F b → b < w.heap.size)
    (h : 0 < L.length → ∃ b off, A = some ⟨b, off, none⟩ ∧ F b ∧ b ≠ g ∧ ∀ i, i < L.length → w.cell? ⟨b, off + i, none⟩ = some (.int .u8 ((L.getD i 0 : Nat) : Int))) : Bytes w w.heap.size A L.length L :=
  ⟨rfl, ha, fun hp => by
    obtain ⟨b, off, e, hb, _, hc⟩ := h hp
    exact ⟨b, off, e, hF b hb, hc⟩⟩
/-- The reader's block is given what is left of its bytes. -/
theorem ReadR.step {w w' : World} {F : Nat → Prop} {g s : Nat} {L : List Nat} {A : Option Addr} {c : Nat} (hg : F g) (hF : ∀ b, F b → b < w.heap.size) (ha : AllB L) (hc : L.length ≤ c ∧ L.length ≤ 140737488355328) (hs : s ≤ L.length)
    (h : 0 < L.length → ∃ b off, A = some ⟨b, off, none⟩ ∧ F b ∧ b ≠ g ∧ ∀ i, i < L.length → w.cell? ⟨b, off + i, none⟩ = some (.int .u8 ((L.getD i 0 : Nat) : Int)))
    (hb : w'.heap[g]? = some (.cells #[.bool true, .slice (cutA A c s) (L.length - s) (c - s)] 141 (0, 0))) (k : w.grownBy w' (some g)) : ReadR w' F g (L.drop s) := by
  refine ⟨hg, fun b h1 => Nat.lt_of_lt_of_le (hF b h1) k.size, fun x hx => ha x (List.mem_of_mem_drop hx), cutA A c s, c - s, by rw [List.length_drop]; exact hb, by rw [List.length_drop]; have := hc.1; have := hc.2; omega, fun hp => ?_⟩
  rw [List.length_drop] at hp
  have hp2 : 0 < L.length := Nat.lt_of_lt_of_le hp (Nat.sub_le _ _)
  obtain ⟨b, off, rfl, h1, h2, h3⟩ := h hp2
  clear h
  refine ⟨b, off + s, ?_, h1, h2, fun i hi => ?_⟩
  · rw [cutA, if_neg (by omega)]
    simp only [Option.map_some, Addr.add]
    split <;> simp_all
  · rw [List.length_drop] at hi
    have hi2 : s + i < L.length := by omega
    have e := h3 (s + i) hi2
    rw [← Nat.add_assoc] at e
    rw [k.cell e (by simpa using h2)]
    simp [List.getD_eq_getElem?_getD, List.getElem?_drop]
theorem wread_nil (s : Int) (w : World) : Calls Try.prog 72 #[.pointer none, .int .i64 s] w fun e w' => e = .returned (.tuple #[.int .u64 0, .int .i64 2]) ∧ Keep w w' := by
  go_enter Try.func72, Try.ntmps72
  go_wp2_with fail
  refine (made_nil _).mono ?_
  rintro e w1 ⟨rfl, rfl⟩
  go_wp2_with fail
  go_ret2
  exact ⟨rfl, Keep.refl _⟩
theorem wtake_nil (s : Int) (w : World) : Calls Try.prog 73 #[.pointer none, .int .i64 s] w fun e w' => ∃ A n c, e = .returned (.tuple #[.slice A n c, .int .i64 2]) ∧ Own w' w.heap.size 5 A n c [] ∧ Keep w w' := by
  go_enter Try.func73, Try.ntmps73
  go_wp2_with fail
  refine (made_nil _).mono ?_
  rintro e w1 ⟨rfl, rfl⟩
  go_wp2_with fail
  go_ret2
  exact ⟨none, 0, 0, rfl, Own.none_ _ _ _, Keep.refl _⟩
theorem wleft_nil (w : World) : Calls Try.prog 74 #[.pointer none] w fun e w' => e = .returned (.int .i64 0) ∧ w = w' := by
  go_enter Try.func74, Try.ntmps74
  go_wp2_with fail
  refine (made_nil _).mono ?_
  rintro e w1 ⟨rfl, rfl⟩
  go_wp2_with fail
  go_ret
  exact ⟨rfl, rfl⟩
theorem wleft_any (F : Nat → Prop) (g : Nat) (L : List Nat) (w : World) (h : ReadR w F g L) :
    Calls Try.prog 74 #[.pointer (some ⟨g, 0, none⟩)] w fun e w' => e = .returned (.int .i64 (L.length : Int)) ∧ w = w' := by
  obtain ⟨_, _, _, A, c, h4, _, _⟩ := h
  have c0 : w.cell? ⟨g, 0, none⟩ = some (.bool true) := by simp [World.cell?, h4]
  have c1 : w.cell? ⟨g, 1, none⟩ = some (.slice A L.length c) := by simp [World.cell?, h4]
  generalize L.length = n at *
  clear h4
  go_enter Try.func74, Try.ntmps74
  go_wp2_with fail
  refine (made_at g true _ c0).mono ?_
  rintro e w1 ⟨rfl, rfl⟩
  go_wp2_with fail
  go_ret
  exact ⟨rfl, rfl⟩
theorem wread_out (F : Nat → Prop) (g : Nat) (L : List Nat) (s : Int) (hs : s < 1 ∨ 8 < s) (w : World) (h : ReadR w F g L) :
    Calls Try.prog 72 #[.pointer (some ⟨g, 0, none⟩), .int .i64 s] w fun e w' => e = .returned (.tuple #[.int .u64 0, .int .i64 1]) ∧ w = w' := by
  obtain ⟨_, _, _, A, c, h4, _, _⟩ := h
  have c0 : w.cell? ⟨g, 0, none⟩ = some (.bool true) := by simp [World.cell?, h4]
  have H := Lib.hid hs
  clear h4 hs
  go_enter Try.func72, Try.ntmps72
  go_wp2_with fail
  refine (made_at g true _ c0).mono ?_
  rintro e w1 ⟨rfl, rfl⟩
  go_wp2_with fail
  refine (size_no s H.out _).mono ?_
  rintro e w1 ⟨rfl, rfl⟩
  go_wp2_with fail
  go_ret2
  exact ⟨rfl, rfl⟩
theorem wread_short (F : Nat → Prop) (g : Nat) (L : List Nat) (s : Nat) (h1 : 1 ≤ s) (h8 : s ≤ 8) (hs : L.length < s) (w : World) (h : ReadR w F g L) :
    Calls Try.prog 72 #[.pointer (some ⟨g, 0, none⟩), .int .i64 (s : Int)] w fun e w' => e = .returned (.tuple #[.int .u64 0, .int .i64 4]) ∧ ReadR w' F g L ∧ w.grownBy w' (some g) := by
  obtain ⟨q1, q2, q3, A, c, h4, q5, q6⟩ := h
  have c0 : w.cell? ⟨g, 0, none⟩ = some (.bool true) := by simp [World.cell?, h4]
  have H4 := Lib.hid h4
  have Q6 := Lib.hid q6
  have Q3 := Lib.hid q3
  clear h4 q6 q3
  go_enter Try.func72, Try.ntmps72
  go_wp2_with fail
  refine (made_at g true _ c0).mono ?_
  rintro e w1 ⟨rfl, rfl⟩
  go_wp2_with fail
  refine (size_yes (s : Int) (by omega) (by omega) _).mono ?_
  rintro e w1 ⟨rfl, rfl⟩
  go_wp2_with fail
  refine (step_short g L.length c (s : Int) A (by omega) q5.1 _ H4.out).mono ?_
  rintro e w1 ⟨rfl, b1, k1⟩
  have HB := Lib.hid b1
  have HK := Lib.hid k1
  clear b1 k1 c0
  go_wp2_with fail
  go_ret2
  refine ⟨rfl, ⟨q1, fun b hb => Nat.lt_of_lt_of_le (q2 b hb) HK.out.size, Q3.out, A, c, HB.out, q5, fun hp => ?_⟩, HK.out⟩
  obtain ⟨b, off, e, hb, hne, hc⟩ := Q6.out hp
  exact ⟨b, off, e, hb, hne, fun i hi => HK.out.cell (hc i hi) (by simpa using hne)⟩
theorem or_low (v x : Nat) (hx : x < 256) (h : 256 * v + x < 18446744073709551616) : bits .or .u64 ((v : Int) * 256) (x : Int) = ((256 * v + x : Nat) : Int) := by
  have e : (v : Int) * 256 = ((v * 256 : Nat) : Int) := by omega
  rw [e, u64_or_nat _ _ (by omega) (by omega), nat_join 8 _ _ (by omega) (by omega), Nat.mul_comm]
set_option maxRecDepth 100000 in
set_option maxHeartbeats 1000000 in
theorem wread_in (F : Nat → Prop) (g : Nat) (L : List Nat) (s : Nat) (h1 : 1 ≤ s) (h8 : s ≤ 8) (hs : s ≤ L.length) (w : World) (h : ReadR w F g L) :
    Calls Try.prog 72 #[.pointer (some ⟨g, 0, none⟩), .int .i64 (s : Int)] w fun e w' => e = .returned (.tuple #[.int .u64 (valN (L.take s) : Nat), .int .i64 0]) ∧ ReadR w' F g (L.drop s) ∧ w.grownBy w' (some g) := by
  obtain ⟨q1, q2, q3, A, c, h4, q5, q6⟩ := h
  have c0 : w.cell? ⟨g, 0, none⟩ = some (.bool true) := by simp [World.cell?, h4]
  have H4 := Lib.hid h4
  have hq : ∃ b off, A = some ⟨b, off, none⟩ ∧ F b ∧ b ≠ g ∧ ∀ i, i < L.length → w.cell? ⟨b, off + i, none⟩ = some (.int .u8 ((L.getD i 0 : Nat) : Int)) := q6 (by omega)
  have Q6 := Lib.hid q6
  have Q3 := Lib.hid q3
  have HN := Lib.hid q5
  obtain ⟨b, off, rfl, hb, hne, hc⟩ := hq
  have HC := Lib.hid hc
  clear h4 q6 q3 hc
  go_enter Try.func72, Try.ntmps72
  go_wp2_with fail
  refine (made_at g true _ c0).mono ?_
  rintro e w1 ⟨rfl, rfl⟩
  go_wp2_with fail
  refine (size_yes (s : Int) (by omega) (by omega) _).mono ?_
  rintro e w1 ⟨rfl, rfl⟩
  go_wp2_with fail
  refine (step_in g L.length c s _ hs q5.1 _ H4.out).mono ?_
  rintro e w1 ⟨rfl, b1, k1⟩
  have HB := Lib.hid b1
  have HK := Lib.hid k1
  clear b1 k1 c0
  go_wp2_with fail
  go_loop [8, 28] (fun v i => ∃ j : Nat, j ≤ s ∧ i = .int .i64 j ∧ v = .int .u64 (valN (L.take j) : Nat)) (fun _ i => s - (intOf i).toNat)
  case atStart => exact ⟨0, by omega, rfl, rfl⟩
  case round =>
    obtain ⟨j, hj, rfl, rfl⟩ := hrel
    by_cases hlt : j < s
    · have hc : w1.cell? ⟨b, off + j, none⟩ = some (.int .u8 ((L.getD j 0 : Nat) : Int)) := HK.out.cell (HC.out j (by omega)) (by simpa using hne)
      have hx : L.getD j 0 < 256 := AllB.getD Q3.out j
      have hv := valN_take_succ L j (by omega)
      have h64 := valN_lt64 L (j + 1) Q3.out (by omega)
      generalize L.getD j 0 = x at *
      obtain ⟨v, hvv⟩ : ∃ v, valN (L.take j) = v := ⟨_, rfl⟩
      rw [hv] at h64
      rw [hvv] at hv h64
      rw [hvv]
      have e1 : (0 : Int) ≤ (j : Int) := Int.natCast_nonneg _
      have e2 : (j : Int) < (s : Int) := by omega
      have HV := Lib.hid hv
      clear hv hvv
      have HO := Lib.hid (or_low v x hx h64)
      go_wp2_with fail
      rw [HO.out]
      go_round
      case rel => exact ⟨j + 1, by omega, by go_num, by rw [HV.out]⟩
      case measure => simp [intOf]; omega
    · obtain rfl : s = j := by omega
      go_wp2_with fail
      go_ret2
      exact ⟨rfl, ReadR.step q1 q2 Q3.out HN.out hs Q6.out HB.out HK.out, HK.out⟩
theorem wread_any (F : Nat → Prop) (g : Nat) (L : List Nat) (s : Int) (w : World) (h : ReadR w F g L) :
    Calls Try.prog 72 #[.pointer (some ⟨g, 0, none⟩), .int .i64 s] w fun e w' => e = .returned (.tuple #[.int .u64 (readVal L s : Nat), .int .i64 (readErr L s)]) ∧ (∃ F', ReadR w' F' g (readLeft L s) ∧ ∀ b, F' b → F b ∨ w.heap.size ≤ b) ∧ w.grownBy w' (some g) := by
  by_cases hs : s < 1 ∨ 8 < s
  · have e1 : readErr L s = 1 := by rw [readErr, if_pos hs]
    have e2 : readVal L s = 0 := by rw [readVal, e1]; rfl
    have e3 : readLeft L s = L := by rw [readLeft, e1]; rfl
    rw [e1, e2, e3]
    exact (wread_out F g L s hs w h).mono fun e w' hw => ⟨hw.1, ⟨F, hw.2 ▸ h, fun b hb => Or.inl hb⟩, hw.2 ▸ World.grownBy.refl w _⟩
  · have e : s = (s.toNat : Int) := by omega
    by_cases hl : L.length < s.toNat
    · have e1 : readErr L s = 4 := by rw [readErr, if_neg hs, if_pos hl]
      have e2 : readVal L s = 0 := by rw [readVal, e1]; rfl
      have e3 : readLeft L s = L := by rw [readLeft, e1]; rfl
      rw [e1, e2, e3]
      have h2 := wread_short F g L s.toNat (by omega) (by omega) hl w h
      rw [← e] at h2
      exact h2.mono fun e w' hw => ⟨hw.1, ⟨F, hw.2.1, fun b hb => Or.inl hb⟩, hw.2.2⟩
    · have e1 : readErr L s = 0 := by rw [readErr, if_neg hs, if_neg hl]
      have e2 : readVal L s = valN (L.take s.toNat) := by rw [readVal, e1]; rfl
      have e3 : readLeft L s = L.drop s.toNat := by rw [readLeft, e1]; rfl
      rw [e1, e2, e3]
      have h2 := wread_in F g L s.toNat (by omega) (by omega) (by omega) w h
      rw [← e] at h2
      exact h2.mono fun e w' hw => ⟨hw.1, ⟨F, hw.2.1, fun b hb => Or.inl hb⟩, hw.2.2⟩
theorem wtake_out (F : Nat → Prop) (g : Nat) (L : List Nat) (s : Int) (hs : s < 0) (w : World) (h : ReadR w F g L) :
    Calls Try.prog 73 #[.pointer (some ⟨g, 0, none⟩), .int .i64 s] w fun e w' => e = .returned (.tuple #[.slice none 0 0, .int .i64 1]) ∧ w = w' := by
  obtain ⟨_, _, _, A, c, h4, _, _⟩ := h
  have c0 : w.cell? ⟨g, 0, none⟩ = some (.bool true) := by simp [World.cell?, h4]
  clear h4
  go_enter Try.func73, Try.ntmps73
  go_wp2_with fail
  refine (made_at g true _ c0).mono ?_
  rintro e w1 ⟨rfl, rfl⟩
  go_wp2_with fail
  go_ret2
  exact ⟨rfl, rfl⟩
theorem wtake_short (F : Nat → Prop) (g : Nat) (L : List Nat) (s : Nat) (hs : L.length < s) (w : World) (h : ReadR w F g L) :
    Calls Try.prog 73 #[.pointer (some ⟨g, 0, none⟩), .int .i64 (s : Int)] w fun e w' => e = .returned (.tuple #[.slice none 0 0, .int .i64 4]) ∧ ReadR w' F g L ∧ w.grownBy w' (some g) := by
  obtain ⟨q1, q2, q3, A, c, h4, q5, q6⟩ := h
  have c0 : w.cell? ⟨g, 0, none⟩ = some (.bool true) := by simp [World.cell?, h4]
  have H4 := Lib.hid h4
  have Q6 := Lib.hid q6
  have Q3 := Lib.hid q3
  have e0 : ¬ (s : Int) < 0 := by omega
  clear h4 q6 q3
  go_enter Try.func73, Try.ntmps73
  go_wp2_with fail
  refine (made_at g true _ c0).mono ?_
  rintro e w1 ⟨rfl, rfl⟩
  go_wp2_with fail
  refine (step_short g L.length c (s : Int) A (by omega) q5.1 _ H4.out).mono ?_
  rintro e w1 ⟨rfl, b1, k1⟩
  have HB := Lib.hid b1
  have HK := Lib.hid k1
  clear b1 k1 c0
  go_wp2_with fail
  go_ret2
  refine ⟨rfl, ⟨q1, fun b hb => Nat.lt_of_lt_of_le (q2 b hb) HK.out.size, Q3.out, A, c, HB.out, q5, fun hp => ?_⟩, HK.out⟩
  obtain ⟨b, off, e, hb, hne, hc⟩ := Q6.out hp
  exact ⟨b, off, e, hb, hne, fun i hi => HK.out.cell (hc i hi) (by simpa using hne)⟩
set_option maxRecDepth 100000 in
theorem wtake_in (F : Nat → Prop) (g : Nat) (L : List Nat) (s : Nat) (hs : s ≤ L.length) (hn : s ≤ 140737488355328) (w : World) (h : ReadR w F g L) :
    Calls Try.prog 73 #[.pointer (some ⟨g, 0, none⟩), .int .i64 (s : Int)] w fun e w' => ∃ A n c, e = .returned (.tuple #[.slice A n c, .int .i64 0]) ∧ Own w' w.heap.size 5 A n c (L.take s) ∧
      (ReadR w' F g (L.drop s) ∧ ∀ b, (Value.slice A n c).ownBlock = some b → ¬ F b) ∧ w.grownBy w' (some g) := by
  obtain ⟨q1, q2, q3, A, c, h4, q5, q6⟩ := h
  have c0 : w.cell? ⟨g, 0, none⟩ = some (.bool true) := by simp [World.cell?, h4]
  have H4 := Lib.hid h4
  have Q6 := Lib.hid q6
  have Q3 := Lib.hid q3
  have HN := Lib.hid q5
  have e0 : ¬ (s : Int) < 0 := by omega
  clear h4 q6 q3
  go_enter Try.func73, Try.ntmps73
  go_wp2_with fail
  refine (made_at g true _ c0).mono ?_
  rintro e w1 ⟨rfl, rfl⟩
  go_wp2_with fail
  refine (step_in g L.length c s _ hs q5.1 _ H4.out).mono ?_
  rintro e w1 ⟨rfl, b1, k1⟩
  have HB := Lib.hid b1
  have HK := Lib.hid k1
  have HR := Lib.hid (ReadR.step q1 q2 Q3.out HN.out hs Q6.out b1 k1)
  have hby : Bytes w1 w1.heap.size A s (L.take s) := by
    have e := (ReadR.bytes Q3.out q2 Q6.out).cut hs
    refine ⟨e.1, e.2.1, fun hp => ?_⟩
    have hp2 : 0 < L.length := by omega
    obtain ⟨b, off, ea, hb, hne, hc⟩ := Q6.out hp2
    refine ⟨b, off, ea, Nat.lt_of_lt_of_le (q2 b hb) k1.size, fun i hi => ?_⟩
    have hi2 : i < L.length := by omega
    rw [k1.cell (hc i hi2) (by simpa using hne)]
    simp [List.getD_eq_getElem?_getD, hi]
  have HY := Lib.hid hby
  clear b1 k1 c0 hby
  go_wp2_with fail
  refine (clone_any _ s c A _ _ HY.out (Nat.le_refl _) hn).mono ?_
  rintro e w2 ⟨A2, n2, c2, rfl, o2, k2⟩
  have HO := Lib.hid o2
  have HK2 := Lib.hid k2
  clear o2 k2
  go_wp2_with fail
  go_ret2
  refine ⟨A2, n2, c2, rfl, HO.out.lower HK.out.size, ⟨HR.out.keep HK2.out, fun b hb hf => ?_⟩, grow_then HK.out HK2.out⟩
  have h1 := HO.out.rowLe b hb
  have h2 := q2 b hf
  have h3 := HK.out.size
  omega
theorem wtake_any (F : Nat → Prop) (g : Nat) (L : List Nat) (s : Int) (w : World) (h : ReadR w F g L) :
    Calls Try.prog 73 #[.pointer (some ⟨g, 0, none⟩), .int .i64 s] w fun e w' => ∃ A n c, e = .returned (.tuple #[.slice A n c, .int .i64 (takeErr L s)]) ∧ Own w' w.heap.size 5 A n c (takeVal L s) ∧
      (∃ F', ReadR w' F' g (takeLeft L s) ∧ (∀ b, F' b → F b ∨ w.heap.size ≤ b) ∧ ∀ b, (Value.slice A n c).ownBlock = some b → ¬ F' b) ∧ w.grownBy w' (some g) := by
  by_cases hs : s < 0
  · have e1 : takeErr L s = 1 := by rw [takeErr, if_pos hs]
    have e2 : takeVal L s = [] := by rw [takeVal, e1]; rfl
    have e3 : takeLeft L s = L := by rw [takeLeft, e1]; rfl
    rw [e1, e2, e3]
    exact (wtake_out F g L s hs w h).mono fun e w' hw => ⟨none, 0, 0, hw.1, Own.none_ _ _ _, ⟨F, hw.2 ▸ h, fun b hb => Or.inl hb, fun b hb => by cases hb⟩, hw.2 ▸ World.grownBy.refl w _⟩
  · have e : s = (s.toNat : Int) := by omega
    by_cases hl : L.length < s.toNat
    · have e1 : takeErr L s = 4 := by rw [takeErr, if_neg hs, if_pos hl]
      have e2 : takeVal L s = [] := by rw [takeVal, e1]; rfl
      have e3 : takeLeft L s = L := by rw [takeLeft, e1]; rfl
      rw [e1, e2, e3]
      have h2 := wtake_short F g L s.toNat hl w h
      rw [← e] at h2
      exact h2.mono fun e w' hw => ⟨none, 0, 0, hw.1, Own.none_ _ _ _, ⟨F, hw.2.1, fun b hb => Or.inl hb, fun b hb => by cases hb⟩, hw.2.2⟩
    · have e1 : takeErr L s = 0 := by rw [takeErr, if_neg hs, if_neg hl]
      have e2 : takeVal L s = L.take s.toNat := by rw [takeVal, e1]; rfl
      have e3 : takeLeft L s = L.drop s.toNat := by rw [takeLeft, e1]; rfl
      rw [e1, e2, e3]
      have h2 := wtake_in F g L s.toNat (by omega) (by have := h.bound; omega) w h
      rw [← e] at h2
      exact h2.mono fun e w' ⟨A, n, c, q1, q2, q3, q4⟩ => ⟨A, n, c, q1, q2, ⟨F, q3.1, fun b hb => Or.inl hb, q3.2⟩, q4⟩
end Go.Proofs.Ytcafofffgmaepaa
