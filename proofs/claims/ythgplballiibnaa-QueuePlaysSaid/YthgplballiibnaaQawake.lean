/- Queues side by side; awake. -/
import Derived.Test.YthgplballiibnaaQcode
import Derived.Test.YthgplballiibnaaEqual
import Derived.Test.YthgplballiibnaaMine
import Derived.Test.YthgplballiibnaaRegion
import Derived.Deep.RegionHeld3
import Derived.Lib.SlBytesConst
namespace Go.Proofs.Ythgplballiibnaa
open Go.RowKit
set_option linter.unusedVariables false
/-- The queue and the document's, side by side. -/
structure Both (w wr : World) (F : Nat → Prop) (g : Nat) (R : Nat → Prop) (gq pl : Nat) (L : List (List Nat)) : Prop where
  q : QueR wr F g pl L
  r : RefQ wr R gq pl L
  apart : ∀ b, F b → ¬ R b
  low : ∀ b, F b ∨ R b → w.heap.size ≤ b
  keep : Keep w wr
theorem Both.other {w wr w' : World} {F R G : Nat → Prop} {g gq pl : Nat} {L : List (List Nat)} (h : Both w wr F g R gq pl L) (k : Turned G wr w') (hG : ∀ b, G b → ¬ F b ∧ ¬ R b ∧ w.heap.size ≤ b) : Both w w' F g R gq pl L :=
  ⟨h.q.turned k fun b hb e => (hG b e).1 hb, h.r.turned k fun b hb e => (hG b e).2.1 hb, h.apart, h.low, k.keep h.keep fun b e => (hG b e).2.2⟩
theorem Both.later {w wr w' : World} {F R : Nat → Prop} {g gq pl : Nat} {L : List (List Nat)} (h : Both w wr F g R gq pl L) (k : Keep wr w') : Both w w' F g R gq pl L :=
  h.other (G := fun _ => False) (Turned.of_keep k) fun _ e => e.elim
/-- Both have turned. -/
theorem Both.step {w w1 w2 w3 : World} {F F' R R' : Nat → Prop} {g gq pl : Nat} {L L' : List (List Nat)} (h : Both w w1 F g R gq pl L) (q' : QueR w2 F' g pl L') (f' : ∀ b, F' b → F b ∨ w1.heap.size ≤ b) (k' : Turned F w1 w2)
    (r' : RefQ w3 R' gq pl L') (s' : ∀ b, R' b → R b ∨ w2.heap.size ≤ b) (k2 : Turned (fun b => b = gq) w2 w3) : Both w w3 F' g R' gq pl L' := by
  have a1 : ∀ b, F' b → ¬ R b := fun b hb e => by
    rcases f' b hb with h1 | h1
    · exact h.apart b h1 e
    · have := h.r.lt b e; omega
  refine ⟨q'.turned k2 fun b hb e => a1 b hb (e ▸ h.r.at_), r', fun b hb e => ?_, fun b hb => ?_, k2.keep (k'.keep h.keep fun b e => h.low b (Or.inl e)) fun b e => e ▸ h.low gq (Or.inr h.r.at_)⟩
  · rcases s' b e with h1 | h1
    · exact a1 b hb h1
    · have := q'.lt b hb; omega
  · have z := h.keep.size
    have z2 := k'.size
    rcases hb with hb | hb
    · rcases f' b hb with h1 | h1
      · exact h.low b (Or.inl h1)
      · omega
    · rcases s' b hb with h1 | h1
      · exact h.low b (Or.inr h1)
      · omega
/-- The document's, behind the queue's turn. -/
theorem Both.mid {w w1 w2 : World} {F R : Nat → Prop} {g gq pl : Nat} {L : List (List Nat)} (h : Both w w1 F g R gq pl L) (k' : Turned F w1 w2) : RefQ w2 R gq pl L := h.r.turned k' fun b hb e => h.apart b e hb
theorem Keep.obj {W w : World} (h : Keep W w) (o : Obj) : Keep W (w.alloc o) := Below.alloc h (Below.size h) o
theorem Bytes.const {w : World} {h : Nat} (hh : w.heap.size = h) (t : TypeId) (fr : Nat × Nat) (n : Nat) (xs : List Nat) (cs : Array Value) (hc : cs = (u8s xs).toArray) (hl : xs.length = n) (hx : AllB xs) : Bytes (w.alloc (.cells cs t fr)) (h + 1) (some ⟨h, 0, none⟩) n xs := by
  subst hh
  refine ⟨hl, hx, fun _ => ⟨_, 0, rfl, by omega, fun i hi => ?_⟩⟩
  rw [cell_of_row _ _ _ _ _ _ (heap_alloc_new w _), hc, Nat.zero_add, List.getElem?_toArray, u8s_get]
  have hi2 : i < xs.length := by omega
  simp [List.getD, hi2]
/-- A queue of new memory, kept. -/
structure One (w wr : World) (F : Nat → Prop) (g pl : Nat) (L : List (List Nat)) : Prop where
  q : QueR wr F g pl L
  low : ∀ b, F b → w.heap.size ≤ b
  keep : Keep w wr
theorem One.step {w w1 w2 : World} {F F' : Nat → Prop} {g pl : Nat} {L L' : List (List Nat)} (h : One w w1 F g pl L) (q' : QueR w2 F' g pl L') (f' : ∀ b, F' b → F b ∨ w1.heap.size ≤ b) (k' : Turned F w1 w2) : One w w2 F' g pl L' :=
  ⟨q', fun b hb => by
    rcases f' b hb with h1 | h1
    · exact h.low b h1
    · have := h.keep.size; omega, k'.keep h.keep h.low⟩
theorem One.later {w w1 w2 : World} {F : Nat → Prop} {g pl : Nat} {L : List (List Nat)} (h : One w w1 F g pl L) (k : Keep w1 w2) : One w w2 F g pl L := ⟨h.q.keep k, h.low, h.keep.trans k⟩
/-- A Push of a byte written out. -/
theorem One.push {w w1 : World} {F : Nat → Prop} {g pl : Nat} {L : List (List Nat)} (h : One w w1 F g pl L) (v : Nat) (hv : v < 256) (t : TypeId) (fr : Nat × Nat) (c : Nat) :
    Calls Try.prog 11 #[.pointer (some ⟨g, 0, none⟩), .slice (some ⟨w1.heap.size, 0, none⟩) 1 c] (w1.alloc (.cells #[.int .u8 (v : Int)] t fr)) fun e w' => e = .returned (.int .i64 (pushErr pl L [v])) ∧ ∃ F', One w w' F' g pl (pushL pl L [v]) ∧ Turned F w1 w' := by
  have k : Keep w1 (w1.alloc (.cells #[.int .u8 (v : Int)] t fr)) := (Keep.refl w1).obj _
  refine (qpush_any _ 1 c pl g _ F [v] L _ (h.q.keep k) (Bytes.const rfl t fr 1 [v] _ rfl rfl (by simpa [AllB] using hv)) (by simp)).mono ?_
  rintro e w2 ⟨rfl, F', q', f', k'⟩
  exact ⟨rfl, F', (h.later k).step q' f' k', (Turned.of_keep (F := F) k).trans k' fun i e => Or.inl e⟩
set_option maxRecDepth 100000 in
set_option maxHeartbeats 2000000 in
theorem awake_any (w : World) : Calls Try.prog 7 #[] w fun e w' => e = .returned (.bool true) ∧ Keep w w' := by
  have kc := fun (w : World) (C : Array Value) (n c : Nat) => Lib.run_convert_bytes_const (P := Try.prog) w 31 5 C n c Try.underlying31 Try.underlying5
  go_enter Try.func7, Try.ntmps7
  go_wp2_with fail
  refine (qnew_in 2 (by decide) (by decide) _).mono ?_
  rintro e w1 ⟨g, rfl, F, q1, f1, k1⟩
  have O1 : Hid (One w w1 F g 2 []) := ⟨q1, f1, k1⟩
  clear q1 f1 k1
  go_wp2_with fail
  refine (O1.out.push 97 (by decide) _ _ _).mono ?_
  rintro e w2 ⟨rfl, F2, o2, _⟩
  have O2 : Hid (One w w2 F2 g 2 [[97]]) := o2
  clear o2
  simp only [show pushErr 2 [] [97] = 0 from rfl]
  go_wp2_with fail
  refine (O2.out.push 98 (by decide) _ _ _).mono ?_
  rintro e w3 ⟨rfl, F3, o3, _⟩
  have O3 : Hid (One w w3 F3 g 2 [[97], [98]]) := o3
  clear o3
  simp only [show pushErr 2 [[97]] [98] = 0 from rfl]
  go_wp2_with fail
  refine (O3.out.push 99 (by decide) _ _ _).mono ?_
  rintro e w4 ⟨rfl, F4, o4, _⟩
  have O4 : Hid (One w w4 F4 g 2 [[97], [98]]) := o4
  clear o4
  simp only [show pushErr 2 [[97], [98]] [99] = 7 from rfl]
  go_wp2_with fail
  refine (qpop_any 2 g F4 _ _ O4.out.q).mono ?_
  rintro e w5 ⟨r, rfl, hr, F5, q5, f5, l5, k5⟩
  have O5 : Hid (One w w5 F5 g 2 [[98]]) := O4.out.step q5 f5 k5
  have hb := l5.bytes (B := w5.heap.size) fun b hb => hb.2.2
  have hr2 : r.xs = [97] := hr
  rw [hr2] at hb
  have L5 := Lib.hid l5
  have HR := Lib.hid hr2
  clear q5 f5 l5 k5 hb hr hr2
  go_wp2_with fail
  refine (O5.out.push 99 (by decide) _ _ _).mono ?_
  rintro e w6 ⟨rfl, F6, o6, k6⟩
  have O6 : Hid (One w w6 F6 g 2 [[98], [99]]) := o6
  have hb := (L5.out.turned k6 fun b hb => hb.2.1).bytes (B := w6.heap.size) fun b hb => Nat.lt_of_lt_of_le hb.2.2 k6.size
  rw [HR.out] at hb
  have t6 := run_str (w := w6) hb Try.underlying31 Try.underlying5 Try.underlying9 r.c
  have q6 : ((strN [97]).toList == [97]) = true := by kernel_rfl
  clear o6 k6 hb
  simp only [show pushErr 2 [[98]] [99] = 0 from rfl]
  go_wp2_with fail
  refine (qlen_any 2 g F6 _ _ O6.out.q).mono ?_
  rintro e w7 ⟨rfl, rfl⟩
  go_wp2_with fail
  refine (qfree_any 2 g F6 _ _ O6.out.q).mono ?_
  rintro e w7 ⟨rfl, kd, rfl⟩
  go_wp2_with fail
  go_ret
  exact ⟨rfl, O6.out.keep.drewN kd⟩
end Go.Proofs.Ythgplballiibnaa
