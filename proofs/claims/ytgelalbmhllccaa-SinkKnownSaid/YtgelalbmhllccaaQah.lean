/- The landed window: how it lies, and its functions that make no list. -/
import Derived.Test.YtgelalbmhllccaaQaa
import Derived.Test.YtgelalbmhllccaaQag
import Derived.RangeFuncNested
import Derived.RangeFuncBound
import Derived.RangeFuncCalls
import Derived.RangeFuncLeaves
import Derived.Shelf.Abstract
import Derived.Shelf.RegionOpen
import Derived.OwnWalkIn
import Derived.TacticsInMore
import Derived.LoopNIn
import Derived.LoopIn
import Derived.Test.YtgelalbmhllccaaQab
import Derived.Test.YtgelalbmhllccaaQad
import Derived.OneCell
import Derived.Test.YtgelalbmhllccaaQae
namespace Go.Proofs.Ytgelalbmhllccaa
open Go.RowKit
set_option linter.unusedVariables false
set_option linter.unusedSimpArgs false
/-- A window of width k and base b in block g. -/
structure WinR (w : World) (g k b : Nat) : Prop where
  block : w.heap[g]? = some (.cells #[.int .i64 (k : Int), .int .u64 (b : Int)] 64 (0, 0))
  low : 1 ≤ k
  high : k ≤ 16
  top : b ≤ topN
namespace WinR
variable {w w' : World} {g k b : Nat}
theorem lt (h : WinR w g k b) : g < w.heap.size := (Array.getElem?_eq_some_iff.1 h.block).1
theorem c0 (h : WinR w g k b) : w.cell? ⟨g, 0, none⟩ = some (.int .i64 (k : Int)) := by simp [World.cell?, h.block]
theorem c1 (h : WinR w g k b) : w.cell? ⟨g, 1, none⟩ = some (.int .u64 (b : Int)) := by simp [World.cell?, h.block]
theorem free (h : WinR w g k b) : w.frozen? ⟨g, 1, none⟩ = false := by simp [World.frozen?, h.block]
theorem turned {G : Nat → Prop} (h : WinR w g k b) (t : Turned G w w') (hn : ¬ G g) : WinR w' g k b := ⟨(t.block g h.lt hn).trans h.block, h.low, h.high, h.top⟩
theorem keep (h : WinR w g k b) (t : Keep w w') : WinR w' g k b := ⟨(t.block g h.lt).trans h.block, h.low, h.high, h.top⟩
end WinR
section
variable {g k b : Nat} {w : World}
theorem made_any (h : WinR w g k b) : Calls Try.prog 39 #[.pointer (some ⟨g, 0, none⟩)] w fun e w' => e = .returned (.bool true) ∧ w' = w := by
  have c0 := h.c0
  have hk := h.low
  have d : decide (0 < k) = true := decide_eq_true (by omega)
  clear h hk
  go_enter Try.func39, Try.ntmps39
  go_wp2_with fail
  go_ret
  exact ⟨rfl, rfl⟩
theorem base_any (h : WinR w g k b) : Calls Try.prog 70 #[.pointer (some ⟨g, 0, none⟩)] w fun e w' => e = .returned (.int .u64 (b : Int)) ∧ w' = w := by
  have c1 := h.c1
  go_enter Try.func70, Try.ntmps70
  go_wp2_with fail
  refine (made_any h).mono ?_
  rintro e w1 ⟨rfl, rfl⟩
  go_wp2_with fail
  go_ret
  exact ⟨rfl, rfl⟩
theorem width_any (h : WinR w g k b) : Calls Try.prog 25 #[.pointer (some ⟨g, 0, none⟩)] w fun e w' => e = .returned (.int .i64 (k : Int)) ∧ w' = w := by
  have c0 := h.c0
  go_enter Try.func25, Try.ntmps25
  go_wp2_with fail
  refine (made_any h).mono ?_
  rintro e w1 ⟨rfl, rfl⟩
  go_wp2_with fail
  go_ret
  exact ⟨rfl, rfl⟩
theorem end_any (h : WinR w g k b) : Calls Try.prog 71 #[.pointer (some ⟨g, 0, none⟩)] w fun e w' => e = .returned (.int .u64 (endN b k : Int)) ∧ w' = w := by
  have hk := h.high
  have hb := h.top
  unfold topN at hb
  have e1 : IntKind.u64.wrap (k : Int) = (k : Int) := IntWalk.u64_in _ (by omega)
  have e2 : IntKind.u64.wrap ((b : Int) + (k : Int)) = ((b + k : Nat) : Int) := by rw [IntWalk.u64_in _ (by omega)]; omega
  go_enter Try.func71, Try.ntmps71
  go_wp2_with fail
  refine (base_any h).mono ?_
  rintro e w1 ⟨rfl, rfl⟩
  go_wp2_with fail
  refine (width_any h).mono ?_
  rintro e w1 ⟨rfl, rfl⟩
  go_wp2_with fail
  all_goals go_ret
  · rename_i h1
    exact ⟨by rw [show endN b k = topN by unfold endN topN; omega]; rfl, rfl⟩
  · rename_i h1
    exact ⟨by rw [show endN b k = b + k by unfold endN topN; omega]; rfl, rfl⟩
/-- In. -/
theorem in_any (n : Nat) (hn : n < 18446744073709551616) (h : WinR w g k b) : Calls Try.prog 52 #[.pointer (some ⟨g, 0, none⟩), .int .u64 (n : Int)] w fun e w' => e = .returned (.bool (winIn b k n)) ∧ w' = w := by
  by_cases h1 : b ≤ n
  · have d1 : decide ((b : Int) ≤ (n : Int)) = true := decide_eq_true (by omega)
    go_enter Try.func52, Try.ntmps52
    go_wp2_with fail
    refine (base_any h).mono ?_
    rintro e w1 ⟨rfl, rfl⟩
    go_wp2_with fail
    refine (end_any h).mono ?_
    rintro e w1 ⟨rfl, rfl⟩
    go_wp2_with fail
    go_ret
    exact ⟨by rw [winIn, decide_eq_true h1, Bool.true_and]; rfl, rfl⟩
  · have d1 : decide ((b : Int) ≤ (n : Int)) = false := decide_eq_false (by omega)
    go_enter Try.func52, Try.ntmps52
    go_wp2_with fail
    refine (base_any h).mono ?_
    rintro e w1 ⟨rfl, rfl⟩
    go_wp2_with fail
    go_ret
    exact ⟨by rw [winIn, decide_eq_false h1, Bool.false_and]; rfl, rfl⟩
/-- Slot. -/
def slotV (b k n : Nat) : Nat := if winIn b k n then n % k else 0
def slotE (b k n : Nat) : Int := if winIn b k n then 0 else 1
theorem slot_any (n : Nat) (hn : n < 18446744073709551616) (h : WinR w g k b) : Calls Try.prog 30 #[.pointer (some ⟨g, 0, none⟩), .int .u64 (n : Int)] w fun e w' => e = .returned (.tuple #[.int .i64 (slotV b k n : Int), .int .i64 (slotE b k n)]) ∧ w' = w := by
  have hk := h.high
  have hl := h.low
  have c0 := h.c0
  cases hi : winIn b k n with
  | true =>
    have hm : n % k < k := Nat.mod_lt _ (by omega)
    have e1 : IntKind.u64.wrap (k : Int) = (k : Int) := IntWalk.u64_in _ (by omega)
    have e2 : (n : Int).tmod (k : Int) = ((n % k : Nat) : Int) := by rw [Int.tmod_eq_emod_of_nonneg (by omega)]; rfl
    have e3 : IntKind.u64.wrap ((n % k : Nat) : Int) = ((n % k : Nat) : Int) := IntWalk.u64_in _ (by omega)
    have e4 : IntKind.i64.wrap ((n % k : Nat) : Int) = ((n % k : Nat) : Int) := IntWalk.i64_in _ (by omega)
    have e5 : (k : Int) ≠ 0 := by omega
    go_enter Try.func30, Try.ntmps30
    go_wp2_with fail
    refine (made_any h).mono ?_
    rintro e w1 ⟨rfl, rfl⟩
    go_wp2_with fail
    refine (in_any n hn h).mono ?_
    rw [hi]
    rintro e w1 ⟨rfl, rfl⟩
    go_wp2_with fail
    go_ret2
    exact ⟨by rw [slotV, slotE, hi]; rfl, rfl⟩
  | false =>
    go_enter Try.func30, Try.ntmps30
    go_wp2_with fail
    refine (made_any h).mono ?_
    rintro e w1 ⟨rfl, rfl⟩
    go_wp2_with fail
    refine (in_any n hn h).mono ?_
    rw [hi]
    rintro e w1 ⟨rfl, rfl⟩
    go_wp2_with fail
    go_ret2
    exact ⟨by rw [slotV, slotE, hi]; rfl, rfl⟩
theorem new_in (k : Nat) (h1 : 1 ≤ k) (h2 : k ≤ 16) (w : World) : Calls Try.prog 16 #[.int .i64 (k : Int)] w fun e w' => e = .returned (.tuple #[.pointer (some ⟨w.heap.size, 0, none⟩), .int .i64 0]) ∧ WinR w' w.heap.size k 0 ∧ Keep w w' := by
  have b1 : decide ((k : Int) < 1) = false := decide_eq_false (by omega)
  have b2 : ¬ (16 : Int) < (k : Int) := by omega
  go_enter Try.func16, Try.ntmps16
  go_wp2_with fail
  go_ret2
  exact ⟨rfl, ⟨heap_alloc_new _ _, h1, h2, Nat.zero_le _⟩, (Keep.refl w).alloc _ _⟩
end
end Go.Proofs.Ytgelalbmhllccaa
/- A range over a method value, whose body goes on to its end: what the walk owes. -/
namespace Go.Proofs.Ytgelalbmhllccaa
open Go.RowKit
set_option linter.unusedVariables false
section
variable {F : Fence} {n : Nat} {P : Program}
end
end Go.Proofs.Ytgelalbmhllccaa
/- The landed window: its numbers handed out, listed, moved. -/
namespace Go.Proofs.Ytgelalbmhllccaa
open Go.RowKit Go.Shelf
set_option linter.unusedVariables false
set_option linter.unusedSimpArgs false
attribute [local go_sem] Oper.semAt_some
end Go.Proofs.Ytgelalbmhllccaa
/- The landed window: Move. -/
namespace Go.Proofs.Ytgelalbmhllccaa
open Go.RowKit Go.Shelf
set_option linter.unusedVariables false
set_option linter.unusedSimpArgs false
attribute [local go_sem] Oper.semAt_some
section
variable {g k b : Nat} {w : World}
end
end Go.Proofs.Ytgelalbmhllccaa
/- The landed relay: how it lies in memory. -/
namespace Go.Proofs.Ytgelalbmhllccaa
open Go.RowKit Lin
set_option linter.unusedVariables false
set_option linter.unusedSimpArgs false
/-- A place of the array: the block of its basis (none: no basis), the blocks that it owns, its rows. -/
structure Slot where
  p : Option Nat
  F : Nat → Prop
  B : List (List Nat)
namespace Slot
def val (x : Slot) : Value := .pointer (x.p.map fun b => ⟨b, 0, none⟩)
def none_ : Slot := ⟨none, fun _ => False, []⟩
def Ok (w : World) (g s : Nat) (x : Slot) : Prop := match x.p with
  | none => (∀ k, ¬ x.F k) ∧ x.B = []
  | some b => BasR w x.F b g s x.B
variable {w w' : World} {g s : Nat} {x : Slot} {G : Nat → Prop}
theorem none_ok (w : World) (g s : Nat) : none_.Ok w g s := ⟨fun _ e => e, rfl⟩
theorem Ok.bas (h : x.Ok w g s) {b : Nat} (hp : x.p = some b) : BasR w x.F b g s x.B := by
  unfold Ok at h; rw [hp] at h; exact h
theorem ok_of {F : Nat → Prop} {b : Nat} {B : List (List Nat)} (h : BasR w F b g s B) : Ok w g s ⟨some b, F, B⟩ := h
theorem Ok.lt (h : x.Ok w g s) : ∀ k, x.F k → k < w.heap.size := by
  unfold Ok at h
  split at h
  · exact fun k hk => (h.1 k hk).elim
  · exact h.fine.2.2.2.2.2
theorem Ok.turned (h : x.Ok w g s) (t : Turned G w w') (hd : ∀ b, x.F b → ¬ G b) : x.Ok w' g s := by
  unfold Ok at h ⊢
  split at h
  · exact h
  · exact h.turned t hd
theorem Ok.keep (h : x.Ok w g s) (k : Keep w w') : x.Ok w' g s := h.turned (Turned.of_keep (F := fun _ => False) k) fun _ _ e => e
theorem Ok.none (h : x.Ok w g s) (hp : x.p = Option.none) : x.B = [] ∧ ∀ k, ¬ x.F k := by
  unfold Ok at h; rw [hp] at h; exact ⟨h.2, h.1⟩
end Slot
theorem set_get {α : Type} {S : List α} {i j : Nat} {x y : α} (h : (S.set i x)[j]? = some y) : (j = i ∧ y = x) ∨ (j ≠ i ∧ S[j]? = some y) := by
  rw [List.getElem?_set] at h
  by_cases e : i = j
  · rw [if_pos e] at h
    split at h
    · exact Or.inl ⟨e.symm, (Option.some.inj h).symm⟩
    · cases h
  · rw [if_neg e] at h; exact Or.inr ⟨fun e2 => e e2.symm, h⟩
/-- A relay's block, and what stands in its places. -/
structure RelC (w : World) (p wb g s : Nat) (S : List Slot) : Prop where
  block : w.heap[p]? = some (.cells (Value.pointer (some ⟨wb, 0, none⟩) :: Value.int .i64 (g : Int) :: Value.int .i64 (s : Int) :: S.map Slot.val).toArray 56 (0, 0))
  len : S.length = 16
  ok : ∀ x ∈ S, x.Ok w g s
  apart : ∀ (i j : Nat) (x y : Slot), i ≠ j → S[i]? = some x → S[j]? = some y → ∀ b, x.F b → ¬ y.F b
  off : ∀ x ∈ S, ∀ b, x.F b → b ≠ p ∧ b ≠ wb
  ne : p ≠ wb
  g1 : 1 ≤ g
  g2 : g ≤ 255
  s1 : 1 ≤ s
  s2 : s ≤ 65535
namespace RelC
variable {w w' w1 : World} {p wb g s : Nat} {S : List Slot} {G : Nat → Prop}
theorem lt (h : RelC w p wb g s S) : p < w.heap.size := (Array.getElem?_eq_some_iff.1 h.block).1
theorem c0 (h : RelC w p wb g s S) : w.cell? ⟨p, 0, none⟩ = some (.pointer (some ⟨wb, 0, none⟩)) := by simp [World.cell?, h.block]
theorem c1 (h : RelC w p wb g s S) : w.cell? ⟨p, 1, none⟩ = some (.int .i64 (g : Int)) := by simp [World.cell?, h.block]
theorem c2 (h : RelC w p wb g s S) : w.cell? ⟨p, 2, none⟩ = some (.int .i64 (s : Int)) := by simp [World.cell?, h.block]
theorem cs (h : RelC w p wb g s S) {i : Nat} {x : Slot} (hx : S[i]? = some x) : w.cell? ⟨p, 3 + i, none⟩ = some x.val := by
  simp only [World.cell?, h.block]
  rw [List.getElem?_toArray, show 3 + i = i + 1 + 1 + 1 by omega, List.getElem?_cons_succ, List.getElem?_cons_succ, List.getElem?_cons_succ, List.getElem?_map, hx]; rfl
theorem free (h : RelC w p wb g s S) (i : Nat) : w.frozen? ⟨p, i, none⟩ = false := by simp [World.frozen?, h.block]
theorem turned (h : RelC w p wb g s S) (t : Turned G w w') (hp : ¬ G p) (hd : ∀ x ∈ S, ∀ b, x.F b → ¬ G b) : RelC w' p wb g s S :=
  ⟨(t.block p h.lt hp).trans h.block, h.len, fun x hx => (h.ok x hx).turned t (hd x hx), h.apart, h.off, h.ne, h.g1, h.g2, h.s1, h.s2⟩
theorem keep (h : RelC w p wb g s S) (k : Keep w w') : RelC w' p wb g s S := h.turned (Turned.of_keep (F := fun _ => False) k) (fun e => e) fun _ _ _ _ e => e
/-- What stands in a place has turned. -/
theorem put (h : RelC w p wb g s S) {i : Nat} {x x' : Slot} (hx : S[i]? = some x) (ok' : x'.Ok w' g s) (hp : x'.p = x.p) (hf : ∀ b, x'.F b → x.F b ∨ w.heap.size ≤ b) (t : Turned x.F w w') (hwb : wb < w.heap.size) : RelC w' p wb g s (S.set i x') := by
  have hi : i < S.length := (List.getElem?_eq_some_iff.1 hx).1
  have hm := List.mem_of_getElem? hx
  have hnp : ¬ x.F p := fun e => (h.off x hm p e).1 rfl
  have get : ∀ j y, (S.set i x')[j]? = some y → (j = i ∧ y = x') ∨ (j ≠ i ∧ S[j]? = some y) := fun j y hy => set_get hy
  have mem : ∀ y ∈ S.set i x', y = x' ∨ ∃ j, j ≠ i ∧ S[j]? = some y := fun y hy => by
    obtain ⟨j, hj⟩ := List.getElem?_of_mem hy
    rcases get j y hj with ⟨_, e⟩ | e
    · exact Or.inl e
    · exact Or.inr ⟨j, e⟩
  refine ⟨?_, by rw [List.length_set]; exact h.len, fun y hy => ?_, fun j k y z hjk hy hz b hb hc => ?_, fun y hy b hb => ?_, h.ne, h.g1, h.g2, h.s1, h.s2⟩
  · rw [t.block p h.lt hnp, h.block, List.map_set]
    have e1 : x'.val = x.val := by unfold Slot.val; rw [hp]
    have e2 : (S.map Slot.val).set i x'.val = S.map Slot.val := by
      rw [e1]
      refine List.ext_getElem? fun j => ?_
      rw [List.getElem?_set]
      by_cases e : i = j
      · subst e; rw [if_pos rfl, if_pos (by rw [List.length_map]; exact hi), List.getElem?_map, hx]; rfl
      · rw [if_neg e]
    rw [e2]
  · rcases mem y hy with rfl | ⟨j, hj, hy2⟩
    · exact ok'
    · exact (h.ok y (List.mem_of_getElem? hy2)).turned t fun b hb e => h.apart i j x y (fun e => hj e.symm) hx hy2 b e hb
  · rcases get j y hy with ⟨rfl, rfl⟩ | ⟨hj, hy2⟩
    · rcases get k z hz with ⟨rfl, rfl⟩ | ⟨hk, hz2⟩
      · exact hjk rfl
      · rcases hf b hb with e | e
        · exact h.apart j k x z hjk hx hz2 b e hc
        · have := (h.ok z (List.mem_of_getElem? hz2)).lt b hc; omega
    · rcases get k z hz with ⟨rfl, rfl⟩ | ⟨hk, hz2⟩
      · rcases hf b hc with e | e
        · exact h.apart j k y x hjk hy2 hx b hb e
        · have := (h.ok y (List.mem_of_getElem? hy2)).lt b hb; omega
      · exact h.apart j k y z hjk hy2 hz2 b hb hc
  · rcases mem y hy with rfl | ⟨j, hj, hy2⟩
    · rcases hf b hb with e | e
      · exact h.off x hm b e
      · have := h.lt; exact ⟨by omega, by omega⟩
    · exact h.off y (List.mem_of_getElem? hy2) b hb
/-- Another basis is laid into a place. -/
theorem set (h : RelC w p wb g s S) {i : Nat} {x' : Slot} (hi : i < 16) (k : Keep w w1) (ok' : x'.Ok w1 g s) (hf : ∀ b, x'.F b → w.heap.size ≤ b) (hwb : wb < w.heap.size) : RelC (w1.setCell ⟨p, 3 + i, none⟩ x'.val) p wb g s (S.set i x') := by
  have hl := h.lt
  have hn : i < S.length := by rw [h.len]; exact hi
  have get : ∀ j y, (S.set i x')[j]? = some y → (j = i ∧ y = x') ∨ (j ≠ i ∧ S[j]? = some y) := fun j y hy => set_get hy
  have mem : ∀ y ∈ S.set i x', y = x' ∨ ∃ j, j ≠ i ∧ S[j]? = some y := fun y hy => by
    obtain ⟨j, hj⟩ := List.getElem?_of_mem hy
    rcases get j y hj with ⟨_, e⟩ | e
    · exact Or.inl e
    · exact Or.inr ⟨j, e⟩
  have t : Turned (fun b => b = p) w1 (w1.setCell ⟨p, 3 + i, none⟩ x'.val) := Turned.set (F := fun b => b = p) w1 ⟨p, 3 + i, none⟩ x'.val rfl
  refine ⟨?_, by rw [List.length_set]; exact h.len, fun y hy => ?_, fun j q y z hjk hy hz b hb hc => ?_, fun y hy b hb => ?_, h.ne, h.g1, h.g2, h.s1, h.s2⟩
  · rw [bset ((k.block p hl).trans h.block), List.map_set]
    congr 2
    refine Array.ext' ?_
    rw [Array.toList_setIfInBounds]
    show List.set (_ :: _ :: _ :: _) (3 + i) _ = _
    rw [show 3 + i = i + 1 + 1 + 1 by omega, List.set_cons_succ, List.set_cons_succ, List.set_cons_succ]
  · rcases mem y hy with rfl | ⟨j, hj, hy2⟩
    · exact ok'.turned t fun b hb e => by have := hf b hb; omega
    · exact ((h.ok y (List.mem_of_getElem? hy2)).keep k).turned t fun b hb e => (h.off y (List.mem_of_getElem? hy2) b hb).1 e
  · rcases get j y hy with ⟨rfl, rfl⟩ | ⟨hj, hy2⟩
    · rcases get q z hz with ⟨rfl, rfl⟩ | ⟨hk, hz2⟩
      · exact hjk rfl
      · have := hf b hb
        have := (h.ok z (List.mem_of_getElem? hz2)).lt b hc; omega
    · rcases get q z hz with ⟨rfl, rfl⟩ | ⟨hk, hz2⟩
      · have := hf b hc
        have := (h.ok y (List.mem_of_getElem? hy2)).lt b hb; omega
      · exact h.apart j q y z hjk hy2 hz2 b hb hc
  · rcases mem y hy with rfl | ⟨j, hj, hy2⟩
    · have := hf b hb; exact ⟨by omega, by omega⟩
    · exact h.off y (List.mem_of_getElem? hy2) b hb
end RelC
/-- A relay of g and s, of width k and base b: generation n has the rows L n; all that it holds lies in blocks of F. -/
structure RelA (w : World) (F : Nat → Prop) (p g s k b : Nat) (L : Nat → List (List Nat)) (wb : Nat) (S : List Slot) : Prop where
  c : RelC w p wb g s S
  win : WinR w wb k b
  made : ∀ i x, S[i]? = some x → (x.p = none ↔ k ≤ i)
  fp : F p
  fw : F wb
  fs : ∀ x ∈ S, ∀ q, x.F q → F q
  lt : ∀ q, F q → q < w.heap.size
  in_ : ∀ n, winIn b k n = true → ∀ x, S[n % k]? = some x → x.B = L n
  out : ∀ n, winIn b k n = false → L n = []
  free : ∀ i x, i < k → S[i]? = some x → (∀ n, winIn b k n = true → n % k ≠ i) → x.B = []
def RelR (w : World) (F : Nat → Prop) (p g s k b : Nat) (L : Nat → List (List Nat)) : Prop := ∃ wb S, RelA w F p g s k b L wb S
/-- One generation has other rows. -/
def upd (L : Nat → List (List Nat)) (n : Nat) (B : List (List Nat)) : Nat → List (List Nat) := fun m => if m = n then B else L m
theorem upd_at (L : Nat → List (List Nat)) (n : Nat) (B : List (List Nat)) : upd L n B n = B := if_pos rfl
theorem upd_ne (L : Nat → List (List Nat)) {n m : Nat} (B : List (List Nat)) (h : m ≠ n) : upd L n B m = L m := if_neg h
/-- Two of a window do not meet in a slot. -/
theorem slot_inj {b k n m : Nat} (hk : 1 ≤ k) (hn : winIn b k n = true) (hm : winIn b k m = true) (h : n % k = m % k) : n = m := by
  rw [winIn_iff, endN] at hn hm
  rcases Nat.lt_or_ge n m with e | e
  · have h1 := Nat.sub_mod_eq_zero_of_mod_eq h.symm
    rw [Nat.mod_eq_of_lt (by omega)] at h1
    omega
  · have h1 := Nat.sub_mod_eq_zero_of_mod_eq h
    rw [Nat.mod_eq_of_lt (by omega)] at h1
    omega
section
variable {w w' : World} {F G : Nat → Prop} {p g s k b wb : Nat} {L : Nat → List (List Nat)} {S : List Slot}
theorem RelA.r (h : RelA w F p g s k b L wb S) : RelR w F p g s k b L := ⟨wb, S, h⟩
theorem RelA.turned (h : RelA w F p g s k b L wb S) (t : Turned G w w') (hd : ∀ q, F q → ¬ G q) : RelA w' F p g s k b L wb S :=
  ⟨h.c.turned t (hd p h.fp) fun x hx q hq => hd q (h.fs x hx q hq), h.win.turned t (hd wb h.fw), h.made, h.fp, h.fw, h.fs, fun q hq => Nat.lt_of_lt_of_le (h.lt q hq) t.size, h.in_, h.out, h.free⟩
theorem RelA.keep (h : RelA w F p g s k b L wb S) (t : Keep w w') : RelA w' F p g s k b L wb S := h.turned (Turned.of_keep (F := fun _ => False) t) fun _ _ e => e
theorem RelR.turned (h : RelR w F p g s k b L) (t : Turned G w w') (hd : ∀ q, F q → ¬ G q) : RelR w' F p g s k b L := by
  obtain ⟨wb, S, h⟩ := h; exact (h.turned t hd).r
theorem RelR.keep (h : RelR w F p g s k b L) (t : Keep w w') : RelR w' F p g s k b L := by
  obtain ⟨wb, S, h⟩ := h; exact (h.keep t).r
theorem RelR.lt (h : RelR w F p g s k b L) : ∀ q, F q → q < w.heap.size := by
  obtain ⟨wb, S, h⟩ := h; exact h.lt
theorem RelR.out (h : RelR w F p g s k b L) : ∀ n, winIn b k n = false → L n = [] := by
  obtain ⟨wb, S, h⟩ := h; exact h.out
/-- The place of a generation that is in the window. -/
theorem RelA.at_ (h : RelA w F p g s k b L wb S) {n : Nat} (hn : winIn b k n = true) : ∃ x q, S[n % k]? = some x ∧ x.p = some q ∧ x.B = L n ∧ BasR w x.F q g s (L n) := by
  have h1 := h.win.low
  have h2 := h.win.high
  have hm : n % k < k := Nat.mod_lt _ (by omega)
  obtain ⟨x, hx⟩ : ∃ x, S[n % k]? = some x := ⟨_, List.getElem?_eq_getElem (by rw [h.c.len]; omega)⟩
  obtain ⟨q, hq⟩ : ∃ q, x.p = some q := by
    cases e : x.p with
    | none => have := (h.made _ x hx).1 e; omega
    | some q => exact ⟨q, rfl⟩
  have hB := h.in_ n hn x hx
  exact ⟨x, q, hx, hq, hB, hB ▸ (h.c.ok x (List.mem_of_getElem? hx)).bas hq⟩
/-- Every generation's rows are a basis. -/
theorem RelR.bas (h : RelR w F p g s k b L) (n : Nat) : Bas g s (L n) := by
  obtain ⟨wb, S, h⟩ := h
  cases e : winIn b k n with
  | true => obtain ⟨x, q, _, _, _, hb⟩ := h.at_ e; exact hb.fine.1
  | false => rw [h.out n e]; exact Bas.nil g s
theorem RelR.fine (h : RelR w F p g s k b L) : 1 ≤ g ∧ g ≤ 255 ∧ 1 ≤ s ∧ s ≤ 65535 ∧ 1 ≤ k ∧ k ≤ 16 ∧ b ≤ topN := by
  obtain ⟨wb, S, h⟩ := h
  exact ⟨h.c.g1, h.c.g2, h.c.s1, h.c.s2, h.win.low, h.win.high, h.win.top⟩
/-- One generation's basis has turned. -/
theorem RelA.put (h : RelA w F p g s k b L wb S) {n q : Nat} (hn : winIn b k n = true) {x : Slot} (hx : S[n % k]? = some x) (hq : x.p = some q) {F' : Nat → Prop} {B' : List (List Nat)} (r : BasR w' F' q g s B') (hf : ∀ j, F' j → x.F j ∨ w.heap.size ≤ j) (t : Turned x.F w w') :
    RelA w' (fun j => F j ∨ w.heap.size ≤ j ∧ j < w'.heap.size) p g s k b (upd L n B') wb (S.set (n % k) ⟨some q, F', B'⟩) := by
  have h1 := h.win.low
  have hm := List.mem_of_getElem? hx
  have hi : n % k < S.length := (List.getElem?_eq_some_iff.1 hx).1
  have get : ∀ j y, (S.set (n % k) ⟨some q, F', B'⟩)[j]? = some y → (j = n % k ∧ y = ⟨some q, F', B'⟩) ∨ (j ≠ n % k ∧ S[j]? = some y) := fun j y hy => set_get hy
  refine ⟨h.c.put hx (Slot.ok_of r) hq.symm hf t h.win.lt, h.win.turned t fun e => (h.c.off x hm wb e).2 rfl, fun i y hy => ?_, Or.inl h.fp, Or.inl h.fw, fun y hy j hj => ?_, fun j hj => ?_, fun m hmm y hy => ?_, fun m hmm => ?_, fun i y hi2 hy hno => ?_⟩
  · rcases get i y hy with ⟨rfl, rfl⟩ | ⟨_, hy2⟩
    · have := h.made _ x hx
      rw [hq] at this
      exact ⟨(fun e => by cases e), (fun e => by have := this.2 e; cases this)⟩
    · exact h.made i y hy2
  · obtain ⟨i, hi2⟩ := List.getElem?_of_mem hy
    rcases get i y hi2 with ⟨rfl, rfl⟩ | ⟨_, hy2⟩
    · rcases hf j hj with e | e
      · exact Or.inl (h.fs x hm j e)
      · exact Or.inr ⟨e, r.fine.2.2.2.2.2 j hj⟩
    · exact Or.inl (h.fs y (List.mem_of_getElem? hy2) j hj)
  · rcases hj with e | e
    · exact Nat.lt_of_lt_of_le (h.lt j e) t.size
    · exact e.2
  · rcases get _ y hy with ⟨e, rfl⟩ | ⟨e, hy2⟩
    · rw [slot_inj h1 hmm hn e, upd_at]
    · rw [upd_ne _ _ fun e2 => e (by rw [e2])]; exact h.in_ m hmm y hy2
  · rw [upd_ne _ _ fun e2 => by rw [e2, hn] at hmm; cases hmm]; exact h.out m hmm
  · rcases get i y hy with ⟨rfl, rfl⟩ | ⟨_, hy2⟩
    · exact (hno n hn rfl).elim
    · exact h.free i y hi2 hy2 hno
end
end Go.Proofs.Ytgelalbmhllccaa
/- The landed relay: what is asked of one generation. -/
namespace Go.Proofs.Ytgelalbmhllccaa
open Go.RowKit Lin
set_option linter.unusedVariables false
set_option linter.unusedSimpArgs false
section
variable {w : World} {p wb : Nat}
theorem rmade_any (c0 : w.cell? ⟨p, 0, none⟩ = some (.pointer (some ⟨wb, 0, none⟩))) : Calls Try.prog 24 #[.pointer (some ⟨p, 0, none⟩)] w fun e w' => e = .returned (.bool true) ∧ w' = w := by
  go_enter Try.func24, Try.ntmps24
  go_wp2_with fail
  go_ret
  exact ⟨rfl, rfl⟩
end
section
variable {w : World} {F : Nat → Prop} {p g s k b wb : Nat} {L : Nat → List (List Nat)} {S : List Slot}
theorem slot_in (h : WinR w wb k b) {n m : Nat} (hn : n < 18446744073709551616) (hin : winIn b k n = true) (hm : n % k = m) : Calls Try.prog 30 #[.pointer (some ⟨wb, 0, none⟩), .int .u64 (n : Int)] w fun e w' => e = .returned (.tuple #[.int .i64 (m : Int), .int .i64 0]) ∧ w' = w :=
  (slot_any n hn h).mono fun e w' hh => ⟨by rw [hh.1, slotV, slotE, if_pos hin, if_pos hin, hm], hh.2⟩
theorem slot_no (h : WinR w wb k b) {n : Nat} (hn : n < 18446744073709551616) (hin : winIn b k n = false) : Calls Try.prog 30 #[.pointer (some ⟨wb, 0, none⟩), .int .u64 (n : Int)] w fun e w' => e = .returned (.tuple #[.int .i64 0, .int .i64 1]) ∧ w' = w :=
  (slot_any n hn h).mono fun e w' hh => ⟨by rw [hh.1, slotV, slotE, if_neg (by rw [hin]; decide), if_neg (by rw [hin]; decide)]; rfl, hh.2⟩
theorem ask_bool_in (h : RelA w F p g s k b L wb S) (n q5 : Nat) (hn : n < 18446744073709551616) (hin : winIn b k n = true) {x : Slot} {q : Nat} (hx : S[n % k]? = some x) (hq : x.p = some q) {Q : Value → Value → World → Prop}
    (hf : Calls Try.prog 22 #[.pointer (some ⟨q, 0, none⟩), .pointer (some ⟨q5, 0, none⟩)] w fun e w' => ∃ a c, e = .returned (.tuple #[a, c]) ∧ Q a c w') :
    Calls Try.prog 21 #[.pointer (some ⟨p, 0, none⟩), .int .u64 (n : Int), .func (.func 22) #[] #[.pointer (some ⟨q5, 0, none⟩)]] w fun e w' => ∃ a c, e = .returned (.tuple #[a, c]) ∧ Q a c w' := by
  have h1 := h.win.low
  have h2 := h.win.high
  obtain ⟨m, hm⟩ : ∃ m, n % k = m := ⟨_, rfl⟩
  have hmk : m < 16 := by have := Nat.mod_lt n (show 0 < k by omega); omega
  rw [hm] at hx
  have c0 := h.c.c0
  have cs := h.c.cs hx
  rw [Slot.val, hq] at cs
  replace cs : w.cell? ⟨p, 3 + m, none⟩ = some (.pointer (some ⟨q, 0, none⟩)) := cs
  have HS := Lib.hid (slot_in h.win hn hin hm)
  have HM := Lib.hid (rmade_any c0)
  have HF := Lib.hid hf
  clear hf h h1 h2 hx hin hn hm hq
  go_enter Try.func21, Try.ntmps21
  go_wp2_with fail
  refine HM.out.mono ?_
  rintro e w1 ⟨rfl, rfl⟩
  go_wp2_with fail
  refine HS.out.mono ?_
  rintro e w1 ⟨rfl, rfl⟩
  go_wp2_with fail
  refine HF.out.mono ?_
  rintro e w1 ⟨a, c, rfl, hQ⟩
  have HQ := Lib.hid hQ
  clear hQ
  go_wp2_with fail
  go_ret2
  exact ⟨a, c, rfl, HQ.out⟩
theorem ask_bool_out (h : RelA w F p g s k b L wb S) (n q5 : Nat) (hn : n < 18446744073709551616) (hin : winIn b k n = false) :
    Calls Try.prog 21 #[.pointer (some ⟨p, 0, none⟩), .int .u64 (n : Int), .func (.func 22) #[] #[.pointer (some ⟨q5, 0, none⟩)]] w fun e w' => e = .returned (.tuple #[.bool false, .int .i64 23]) ∧ w' = w := by
  have c0 := h.c.c0
  have HS := Lib.hid (slot_no h.win hn hin)
  have HM := Lib.hid (rmade_any c0)
  clear h hin hn
  go_enter Try.func21, Try.ntmps21
  go_wp2_with fail
  refine HM.out.mono ?_
  rintro e w1 ⟨rfl, rfl⟩
  go_wp2_with fail
  refine HS.out.mono ?_
  rintro e w1 ⟨rfl, rfl⟩
  go_wp2_with fail
  go_ret2
  exact ⟨rfl, rfl⟩
theorem ask_syms_in (h : RelA w F p g s k b L wb S) (n : Nat) (hn : n < 18446744073709551616) (hin : winIn b k n = true) {x : Slot} {q : Nat} (hx : S[n % k]? = some x) (hq : x.p = some q) {Q : Value → Value → World → Prop}
    (hf : Calls Try.prog 41 #[.pointer (some ⟨q, 0, none⟩)] w fun e w' => ∃ a c, e = .returned (.tuple #[a, c]) ∧ Q a c w') :
    Calls Try.prog 40 #[.pointer (some ⟨p, 0, none⟩), .int .u64 (n : Int), .func (.func 41) #[] #[]] w fun e w' => ∃ a c, e = .returned (.tuple #[a, c]) ∧ Q a c w' := by
  have h1 := h.win.low
  have h2 := h.win.high
  obtain ⟨m, hm⟩ : ∃ m, n % k = m := ⟨_, rfl⟩
  have hmk : m < 16 := by have := Nat.mod_lt n (show 0 < k by omega); omega
  rw [hm] at hx
  have c0 := h.c.c0
  have cs := h.c.cs hx
  rw [Slot.val, hq] at cs
  replace cs : w.cell? ⟨p, 3 + m, none⟩ = some (.pointer (some ⟨q, 0, none⟩)) := cs
  have HS := Lib.hid (slot_in h.win hn hin hm)
  have HM := Lib.hid (rmade_any c0)
  have HF := Lib.hid hf
  clear hf h h1 h2 hx hin hn hm hq
  go_enter Try.func40, Try.ntmps40
  go_wp2_with fail
  refine HM.out.mono ?_
  rintro e w1 ⟨rfl, rfl⟩
  go_wp2_with fail
  refine HS.out.mono ?_
  rintro e w1 ⟨rfl, rfl⟩
  go_wp2_with fail
  refine HF.out.mono ?_
  rintro e w1 ⟨a, c, rfl, hQ⟩
  have HQ := Lib.hid hQ
  clear hQ
  go_wp2_with fail
  go_ret2
  exact ⟨a, c, rfl, HQ.out⟩
theorem ask_syms_out (h : RelA w F p g s k b L wb S) (n : Nat) (hn : n < 18446744073709551616) (hin : winIn b k n = false) :
    Calls Try.prog 40 #[.pointer (some ⟨p, 0, none⟩), .int .u64 (n : Int), .func (.func 41) #[] #[]] w fun e w' => e = .returned (.tuple #[.slice none 0 0, .int .i64 23]) ∧ w' = w := by
  have c0 := h.c.c0
  have HS := Lib.hid (slot_no h.win hn hin)
  have HM := Lib.hid (rmade_any c0)
  clear h hin hn
  go_enter Try.func40, Try.ntmps40
  go_wp2_with fail
  refine HM.out.mono ?_
  rintro e w1 ⟨rfl, rfl⟩
  go_wp2_with fail
  refine HS.out.mono ?_
  rintro e w1 ⟨rfl, rfl⟩
  go_wp2_with fail
  go_ret2
  exact ⟨rfl, rfl⟩
/-- A row told: both of its sides new. -/
def NewRow (w : World) (cs ps : List Nat) (er : Int) (e : Ending) (w' : World) : Prop :=
  ∃ A2 n2 c2 A3 n3 c3, e = .returned (.tuple #[.agg #[.slice A2 n2 c2, .slice A3 n3 c3], .int .i64 er]) ∧ Own w' w.heap.size 5 A2 n2 c2 cs ∧ Own w' w.heap.size 5 A3 n3 c3 ps ∧ Keep w w'
theorem NewRow.lower {w w0 w' : World} {cs ps : List Nat} {er : Int} {e : Ending} (h : NewRow w cs ps er e w') (k : Keep w0 w) : NewRow w0 cs ps er e w' := by
  obtain ⟨A2, n2, c2, A3, n3, c3, e1, e2, e3, e4⟩ := h
  exact ⟨A2, n2, c2, A3, n3, c3, e1, e2.lower k.size, e3.lower k.size, k.trans e4⟩
end
end Go.Proofs.Ytgelalbmhllccaa
/- The landed code of layer 7: Solve tells rows that stand apart. -/
namespace Go.Proofs.Ytgelalbmhllccaa
open Go.RowKit Lin
set_option linter.unusedVariables false
set_option linter.unusedSimpArgs false
/-- Symbols being told. -/
structure SolJ (w wr : World) (q g k : Nat) (B : List (List Nat)) (rs : List RowV) : Prop where
  base : w.heap.size = q
  st : OwnRows wr q 37 (some ⟨q, 0, none⟩) g g (rs ++ List.replicate (g - k) ⟨none, 0, 0, []⟩)
  len : rs.length = k
  own : ∀ r ∈ rs, Own wr (q + 1) 5 r.A r.n r.c r.xs
  xs : rowsXs rs = (B.take k).map (List.drop g)
  keep : Keep w wr
  inc : ∀ (i j : Nat) (r r' : RowV), i < j → rs[i]? = some r → rs[j]? = some r' → ∀ x y, (Value.slice r.A r.n r.c).ownBlock = some x → (Value.slice r'.A r'.n r'.c).ownBlock = some y → x < y
section
variable {w wr w2 : World} {q g k : Nat} {B : List (List Nat)} {rs : List RowV}
theorem SolJ.later (h : SolJ w wr q g k B rs) (kp : Keep wr w2) : SolJ w w2 q g k B rs :=
  ⟨h.base, h.st.keep kp, h.len, fun p hp => (h.own p hp).keep kp, h.xs, h.keep.trans kp, h.inc⟩
theorem SolJ.set (h : SolJ w wr q g k B rs) (hk : k < g) {r : RowV} {x : List Nat} (hr : Own wr (q + 1) 5 r.A r.n r.c r.xs) (hB : B[k]? = some x) (hx : r.xs = x.drop g) (hn : ∀ r0 ∈ rs, ∀ x y, (Value.slice r0.A r0.n r0.c).ownBlock = some x → (Value.slice r.A r.n r.c).ownBlock = some y → x < y) :
    SolJ w (wr.setCell ⟨q, k, none⟩ (.slice r.A r.n r.c)) q g (k + 1) B (rs ++ [r]) := by
  have T : Turned (fun b => b = q) wr (wr.setCell ⟨q, k, none⟩ (.slice r.A r.n r.c)) := Turned.set (F := fun b => b = q) wr ⟨q, k, none⟩ _ rfl
  refine ⟨h.base, ?_, by rw [List.length_append, h.len]; rfl, fun x hx => ?_, ?_, T.keep h.keep fun i e => by rw [e, h.base]; exact Nat.le_refl _, fun i j a b hij ha hb x y hx hy => ?_⟩
  · have e := h.st.stored (i := k) r
    rw [List.set_append_right _ _ (by rw [h.len]; exact Nat.le_refl _), h.len, Nat.sub_self, show g - k = (g - (k + 1)) + 1 by omega, List.replicate_succ, List.set_cons_zero] at e
    rwa [List.append_assoc]
  · have key : Own wr (q + 1) 5 x.A x.n x.c x.xs := by
      rcases List.mem_append.1 hx with e | e
      · exact h.own x e
      · rw [List.mem_singleton.1 e]; exact hr
    exact key.turned T fun b hb e => by have := (key.1.lt b hb).1; omega
  · have e := h.xs
    rw [rowsXs] at e ⊢
    rw [List.map_append, e, List.take_add_one, hB, Option.toList_some, List.map_append, List.map_singleton, List.map_singleton, hx]
  · rcases Nat.lt_or_ge j rs.length with hj | hj
    · rw [List.getElem?_append_left hj] at hb
      rw [List.getElem?_append_left (by omega)] at ha
      exact h.inc i j a b hij ha hb x y hx hy
    · rw [List.getElem?_append_right hj] at hb
      have hj0 : j - rs.length = 0 := by
        have := (List.getElem?_eq_some_iff.1 hb).1
        simpa using this
      rw [hj0] at hb
      obtain rfl : r = b := by simpa using hb
      rw [List.getElem?_append_left (by omega)] at ha
      exact hn a (List.mem_of_getElem? ha) x y hx hy
end
section
variable {w : World} {F : Nat → Prop} {b g s : Nat} {B : List (List Nat)}
set_option maxRecDepth 100000 in
set_option maxHeartbeats 2000000 in
theorem bsolve_ap (h : BasR w F b g s B) (hg : B.length = g) : Calls Try.prog 42 #[.pointer (some ⟨b, 0, none⟩)] w fun e w' => ∃ A c rs, e = .returned (.tuple #[.slice A g c, .int .i64 0]) ∧ OwnRows w' w.heap.size 37 A g c rs ∧ (∀ r ∈ rs, Own w' w.heap.size 5 r.A r.n r.c r.xs) ∧ rowsXs rs = B.map (List.drop g) ∧ Keep w w' ∧ (∀ (i j : Nat) (r r' : RowV), i < j → rs[i]? = some r → rs[j]? = some r' → ∀ x y, (Value.slice r.A r.n r.c).ownBlock = some x → (Value.slice r'.A r'.n r'.c).ownBlock = some y → x < y) := by
  obtain ⟨A, n, c, ps, h⟩ := h.open_
  have hl := h.len
  obtain rfl : n = g := by omega
  have c0 := h.c0
  have c2 := h.c2
  have h1 := h.g1
  have hg2 := h.g2
  have H := Lib.hid h
  have HB := Lib.hid (And.intro (h.lt b h.at_) (And.intro c2 hl))
  have e1 : decide ((n : Int) < (n : Int)) = false := decide_eq_false (by omega)
  have e2 : decide (n < n) = false := decide_eq_false (by omega)
  have mks := fun w => run_make_rows (P := Try.prog) Try.underlying31 infoRow n (by omega) w
  have h0 : SolJ w ((w.alloc (.cells (madeCells #[.slice none 0 0] n) 37)).drew) w.heap.size n 0 B [] := by
    exact ⟨rfl, by simpa using (OwnRows.made w 37 n (by omega)).drew, rfl, fun p hp => by simp at hp, by simp [rowsXs], ((Keep.refl w).alloc _ _).drew, fun i j r r' _ h => by simp at h⟩
  obtain ⟨⟨q, hq⟩⟩ : Nonempty (∃ q, w.heap.size = q) := ⟨_, rfl⟩
  rw [hq] at h0
  have H0 := Lib.hid h0
  have HQ := Lib.hid hq
  clear h hl hg h0
  go_enter Try.func42, Try.ntmps42
  go_wp2_with fail
  refine (bmade_eq b n _ c0 h1).mono ?_
  rintro e w' ⟨rfl, rfl⟩
  go_wp2_with fail
  go_region
  go_upto_region 6 with fail
  try simp only [hq]
  clear hq
  generalize (w.alloc (.cells (madeCells #[.slice none 0 0] n) 37)).drew = w4 at *
  have c2' := (H0.out.keep.cell (p := ⟨b, 2, none⟩) HB.out.1).trans HB.out.2.1
  clear mks c0 c2
  go_wp2_with fail
  clear c2'
  go_loopw [30] (fun i wr => ∃ (k : Nat) (rs : List RowV), k ≤ n ∧ i = .int .i64 k ∧ SolJ w wr q n k B rs) (fun i _ => n - (intOf i).toNat)
  case atStart => exact ⟨0, [], by omega, rfl, H0.out⟩
  case round =>
    obtain ⟨k, rs, hk, rfl, hI⟩ := hrel
    have HI := Lib.hid hI
    clear hI H0
    by_cases hlt : k < n
    · obtain ⟨b2, o2, p, rfl, hb2, hp, hc1, hc3, hl2, hl3⟩ := (H.out.st.keep HI.out.keep).at_ hlt
      have hsz := H.out.size p (List.mem_of_getElem? hp)
      have hrow := (H.out.sides).2
      have hBk : B[k]? = some (p.a.xs ++ p.b.xs) := by rw [← H.out.xs, List.getElem?_map, hp]; rfl
      have hdr : p.b.xs = (p.a.xs ++ p.b.xs).drop n := by rw [List.drop_left' (H.out.lens (List.mem_of_getElem? hp)).1]
      obtain ⟨⟨pA, pn, pc, px⟩, ⟨sA, sn, sc, sx⟩⟩ := p
      obtain ⟨z1, z2⟩ := hsz
      simp only at z1 z2 hBk hdr
      obtain rfl : sn = s := z2
      have e3 : (0 : Int) ≤ (k : Int) := Int.natCast_nonneg _
      have e4 : (k : Int) < (n : Int) := by omega
      have HP := Lib.hid (And.intro hBk (And.intro hdr (And.intro (hl3.bytes (B := wr.heap.size) fun x hx => Nat.lt_of_lt_of_le (H.out.lt x hx) HI.out.keep.size) H.out.s2)))
      have HLT : Hid (k < n) := hlt
      clear hp hl2 hl3 hb2 hBk hdr hrow z1
      go_upto_region 9 with fail
      have hkw : Keep wr (wr.alloc (.cells #[.slice pA pn pc, .slice sA sn sc] 39)) := (Keep.refl wr).alloc _ _
      have hnew := heap_alloc_new wr (.cells #[.slice pA pn pc, .slice sA sn sc] 39)
      obtain ⟨q5, hq5⟩ : ∃ q5, wr.heap.size = q5 := ⟨_, rfl⟩
      have HQ5 := Lib.hid hq5
      rw [hq5] at hnew
      simp only [hq5]
      clear hc1 hc3
      generalize (wr.alloc (.cells #[.slice pA pn pc, .slice sA sn sc] 39)) = w5 at *
      have H5 := Lib.hid (HI.out.later hkw)
      have HKW := Lib.hid hkw
      have d1 : w5.cell? ⟨q5, 1, none⟩ = some (.slice sA sn sc) := cell_of_row _ _ _ _ _ _ hnew
      clear hnew hkw hq5
      go_wp2_with fail
      refine (clone_any _ _ _ _ sx _ (HP.out.2.2.1.keep (Nat.le_refl _) HKW.out) HKW.out.size (by have := HP.out.2.2.2; omega)).mono ?_
      rintro e w6 ⟨A6, n6, c6, rfl, o6, k6⟩
      have H6 := Lib.hid (H5.out.later k6)
      have O6 := Lib.hid o6
      have S5 := Lib.hid HKW.out.size
      have z0 := World.ownsRow.cellAt H6.out.st k (by omega)
      have f0 := World.ownsRow.frozenAt H6.out.st k
      rw [List.getElem?_map, List.getElem?_append_right (by rw [H6.out.len]; exact Nat.le_refl _), H6.out.len, Nat.sub_self, show n - k = (n - (k + 1)) + 1 by omega, List.replicate_succ, List.getElem?_cons_zero] at z0
      change _ = some (Value.slice none 0 0) at z0
      clear d1 o6 k6
      go_wp2_with fail
      go_roundw
      case rel => exact ⟨k + 1, _, by omega, by go_num, H6.out.set hlt (r := ⟨A6, n6, c6, sx⟩) (O6.out.lower (by have h1 := S5.out; have h2 := HI.out.st.block (by omega); obtain ⟨g, e, _, hgl⟩ := h2; cases e; omega)) HP.out.1 HP.out.2.1 (fun r0 hr0 x y hx hy => by have h1 := (HI.out.own r0 hr0).1.lt x hx; have h2 := O6.out.1.lt y hy; have h3 := S5.out; omega)⟩
      case measure => simp [intOf]; omega
    · obtain rfl : k = n := by omega
      go_wp2_with fail
      go_ret2
      have o := HI.out.st
      rw [Nat.sub_self, List.replicate_zero, List.append_nil] at o
      refine ⟨_, _, rs, rfl, by rw [HQ.out]; exact o, fun r hr => (HI.out.own r hr).lower (by rw [HQ.out]; omega), ?_, HI.out.keep, HI.out.inc⟩
      rw [HI.out.xs, List.take_of_length_le (by rw [HB.out.2.2]; exact Nat.le_refl _)]
end
end Go.Proofs.Ytgelalbmhllccaa
/- Vector's landed contracts that stage 11 leans on: Lead, IsZero, Unit. -/
namespace Go.Proofs.Ytgelalbmhllccaa
open Go.RowKit
set_option linter.unusedVariables false
set_option linter.unusedSimpArgs false
end Go.Proofs.Ytgelalbmhllccaa
/- The landed draw's contracts: isCount, Systematic, Turn, lay, orElse, Coefs. -/
namespace Go.Proofs.Ytgelalbmhllccaa
open Go.RowKit
set_option linter.unusedVariables false
set_option linter.unusedSimpArgs false
end Go.Proofs.Ytgelalbmhllccaa
/- The landed draw's contracts: Coefs. -/
namespace Go.Proofs.Ytgelalbmhllccaa
open Go.RowKit
set_option linter.unusedVariables false
set_option linter.unusedSimpArgs false
end Go.Proofs.Ytgelalbmhllccaa
/- The landed draw's contracts: Turn. -/
namespace Go.Proofs.Ytgelalbmhllccaa
open Go.RowKit
set_option linter.unusedVariables false
set_option linter.unusedSimpArgs false
end Go.Proofs.Ytgelalbmhllccaa
/- The landed relay: Take, Rank, Rows, Solve, Send. -/
namespace Go.Proofs.Ytgelalbmhllccaa
open Go.RowKit Lin
set_option linter.unusedVariables false
set_option linter.unusedSimpArgs false
theorem takec_any (q q5 : Nat) (v1 v2 : Value) (w : World) {Q : Value → Value → World → Prop} (y0 : w.cell? ⟨q5, 0, none⟩ = some v1) (y1 : w.cell? ⟨q5, 1, none⟩ = some v2)
    (hi : Calls Try.prog 23 #[.pointer (some ⟨q, 0, none⟩), .agg #[v1, v2]] w fun e w' => ∃ a c, e = .returned (.tuple #[a, c]) ∧ Q a c w') :
    Calls Try.prog 22 #[.pointer (some ⟨q, 0, none⟩), .pointer (some ⟨q5, 0, none⟩)] w fun e w' => ∃ a c, e = .returned (.tuple #[a, c]) ∧ Q a c w' := by
  have HI := Lib.hid hi
  clear hi
  go_enter Try.func22, Try.ntmps22
  go_wp2_with fail
  refine HI.out.mono ?_
  rintro e w1 ⟨a, c, rfl, hQ⟩
  have HQ := Lib.hid hQ
  clear hQ
  go_wp2_with fail
  go_ret2
  exact ⟨a, c, rfl, HQ.out⟩
theorem solvec_any (q : Nat) (w : World) {Q : Value → Value → World → Prop} (hi : Calls Try.prog 42 #[.pointer (some ⟨q, 0, none⟩)] w fun e w' => ∃ a c, e = .returned (.tuple #[a, c]) ∧ Q a c w') :
    Calls Try.prog 41 #[.pointer (some ⟨q, 0, none⟩)] w fun e w' => ∃ a c, e = .returned (.tuple #[a, c]) ∧ Q a c w' := by
  have HI := Lib.hid hi
  clear hi
  go_enter Try.func41, Try.ntmps41
  go_wp2_with fail
  refine HI.out.mono ?_
  rintro e w1 ⟨a, c, rfl, hQ⟩
  have HQ := Lib.hid hQ
  clear hQ
  go_wp2_with fail
  go_ret2
  exact ⟨a, c, rfl, HQ.out⟩
section
variable {w : World} {F : Nat → Prop} {p g s k b wb : Nat} {L : Nat → List (List Nat)} {S : List Slot}
theorem OwnedSt.none_ (w : World) (g s : Nat) : OwnedSt w w none 0 0 g s [] [] := ⟨OwnSt.none_ _ _, fun p hp => by simp at hp, rfl, Keep.refl w⟩
/-- Symbols told: each a slice of its own, one behind the other. -/
def Solved (w w' : World) (A : Option Addr) (g c : Nat) (B : List (List Nat)) (rs : List RowV) : Prop :=
  OwnRows w' w.heap.size 37 A g c rs ∧ (∀ r ∈ rs, Own w' w.heap.size 5 r.A r.n r.c r.xs) ∧ rowsXs rs = B.map (List.drop g) ∧ Keep w w' ∧ (∀ (i j : Nat) (r r' : RowV), i < j → rs[i]? = some r → rs[j]? = some r' → ∀ x y, (Value.slice r.A r.n r.c).ownBlock = some x → (Value.slice r'.A r'.n r'.c).ownBlock = some y → x < y)
theorem rl_solve_of (v : Value) (n : Nat) (w : World) {Q : Value → Value → World → Prop} (hi : Calls Try.prog 40 #[v, .int .u64 (n : Int), .func (.func 41) #[] #[]] w fun e w' => ∃ a c, e = .returned (.tuple #[a, c]) ∧ Q a c w') :
    Calls Try.prog 28 #[v, .int .u64 (n : Int)] w fun e w' => ∃ a c, e = .returned (.tuple #[a, c]) ∧ Q a c w' := by
  have HI := Lib.hid hi
  clear hi
  go_enter Try.func28, Try.ntmps28
  go_wp2_with fail
  refine HI.out.mono ?_
  rintro e w1 ⟨a, c, rfl, hQ⟩
  have HQ := Lib.hid hQ
  clear hQ
  go_wp2_with fail
  go_ret2
  exact ⟨a, c, rfl, HQ.out⟩
theorem rl_solve_in (h : RelR w F p g s k b L) (n : Nat) (hn : n < 18446744073709551616) (hin : winIn b k n = true) (hg : (L n).length = g) :
    Calls Try.prog 28 #[.pointer (some ⟨p, 0, none⟩), .int .u64 (n : Int)] w fun e w' => ∃ A c rs, e = .returned (.tuple #[.slice A g c, .int .i64 0]) ∧ Solved w w' A g c (L n) rs := by
  obtain ⟨wb, S, h⟩ := h
  obtain ⟨x, q, hx, hq, hB, hb⟩ := h.at_ hin
  refine (rl_solve_of _ n w (Q := fun a c w' => ∃ A d rs, a = .slice A g d ∧ c = .int .i64 0 ∧ Solved w w' A g d (L n) rs) (ask_syms_in h n hn hin hx hq (solvec_any q w ((bsolve_ap hb hg).mono fun e w' hh => ?_)))).mono fun e w' hh => ?_
  · obtain ⟨A, c, rs, e1, e2⟩ := hh
    exact ⟨_, _, e1, A, c, rs, rfl, rfl, e2⟩
  · obtain ⟨a, c, e1, A, d, rs, rfl, rfl, e2⟩ := hh
    exact ⟨A, d, rs, e1, e2⟩
theorem rl_solve_low (h : RelR w F p g s k b L) (n : Nat) (hn : n < 18446744073709551616) (hin : winIn b k n = true) (hg : (L n).length ≠ g) :
    Calls Try.prog 28 #[.pointer (some ⟨p, 0, none⟩), .int .u64 (n : Int)] w fun e w' => e = .returned (.tuple #[.slice none 0 0, .int .i64 24]) ∧ Keep w w' := by
  obtain ⟨wb, S, h⟩ := h
  obtain ⟨x, q, hx, hq, hB, hb⟩ := h.at_ hin
  refine (rl_solve_of _ n w (Q := fun a c w' => a = .slice none 0 0 ∧ c = .int .i64 24 ∧ Keep w w') (ask_syms_in h n hn hin hx hq (solvec_any q w ((bsolve_low hb hg).mono fun e w' hh => ⟨_, _, hh.1, rfl, rfl, hh.2⟩)))).mono fun e w' hh => ?_
  obtain ⟨a, c, e1, rfl, rfl, e2⟩ := hh
  exact ⟨e1, e2⟩
theorem rl_solve_out (h : RelR w F p g s k b L) (n : Nat) (hn : n < 18446744073709551616) (hin : winIn b k n = false) :
    Calls Try.prog 28 #[.pointer (some ⟨p, 0, none⟩), .int .u64 (n : Int)] w fun e w' => e = .returned (.tuple #[.slice none 0 0, .int .i64 23]) ∧ w' = w := by
  obtain ⟨wb, S, h⟩ := h
  refine (rl_solve_of _ n w (Q := fun a c w' => a = .slice none 0 0 ∧ c = .int .i64 23 ∧ w' = w) ((ask_syms_out h n hn hin).mono fun e w' hh => ⟨_, _, hh.1, rfl, rfl, hh.2⟩)).mono fun e w' hh => ?_
  obtain ⟨a, c, e1, rfl, rfl, e2⟩ := hh
  exact ⟨e1, e2⟩
theorem rl_take_of (v v1 v2 : Value) (n : Nat) (w : World) {Q : Value → Value → World → Prop}
    (hi : Calls Try.prog 21 #[v, .int .u64 (n : Int), .func (.func 22) #[] #[.pointer (some ⟨w.heap.size, 0, none⟩)]] (w.alloc (.cells #[v1, v2] 39)) fun e w' => ∃ a c, e = .returned (.tuple #[a, c]) ∧ Q a c w') (h1 : ∃ A n c, v1 = .slice A n c) (h2 : ∃ A n c, v2 = .slice A n c) :
    Calls Try.prog 10 #[v, .int .u64 (n : Int), .agg #[v1, v2]] w fun e w' => ∃ a c, e = .returned (.tuple #[a, c]) ∧ Q a c w' := by
  have HI := Lib.hid hi
  obtain ⟨A1, n1, c1, rfl⟩ := h1
  obtain ⟨A2, n2, c2, rfl⟩ := h2
  clear hi
  go_enter Try.func10, Try.ntmps10
  go_wp2_with fail
  refine HI.out.mono ?_
  rintro e w1 ⟨a, c, rfl, hQ⟩
  have HQ := Lib.hid hQ
  clear hQ
  go_wp2_with fail
  go_ret2
  exact ⟨a, c, rfl, HQ.out⟩
theorem row_block (w : World) (v1 v2 : Value) : (w.alloc (.cells #[v1, v2] 39)).cell? ⟨w.heap.size, 0, none⟩ = some v1 ∧ (w.alloc (.cells #[v1, v2] 39)).cell? ⟨w.heap.size, 1, none⟩ = some v2 ∧ Keep w (w.alloc (.cells #[v1, v2] 39)) :=
  ⟨cell_of_row _ _ _ _ _ _ (heap_alloc_new w _), cell_of_row _ _ _ _ _ _ (heap_alloc_new w _), (Keep.refl w).alloc _ _⟩
/-- A row that fits, of a generation in the window. -/
theorem rl_take_in (h : RelR w F p g s k b L) (n : Nat) (hn : n < 18446744073709551616) (hin : winIn b k n = true) (B1 B2 c1 c2 : Nat) (A1 A2 : Option Addr) (xs ys : List Nat) (hc1 : g ≤ c1) (hc2 : s ≤ c2) (h1 : Bytes w B1 A1 g xs) (h2 : Bytes w B2 A2 s ys) (hB1 : B1 ≤ w.heap.size) (hB2 : B2 ≤ w.heap.size) :
    Calls Try.prog 10 #[.pointer (some ⟨p, 0, none⟩), .int .u64 (n : Int), .agg #[.slice A1 g c1, .slice A2 s c2]] w fun e w' => e = .returned (.tuple #[.bool (!decide (inB g s (L n) (xs ++ ys))), .int .i64 0]) ∧ ∃ F', RelR w' F' p g s k b (upd L n (insB g s (L n) (xs ++ ys))) ∧ (∀ j, F' j → F j ∨ w.heap.size ≤ j) ∧ Turned F w w' := by
  obtain ⟨wb, S, h⟩ := h
  obtain ⟨r0, r1, rk⟩ := row_block w (.slice A1 g c1) (.slice A2 s c2)
  have h' := h.keep rk
  obtain ⟨x, q, hx, hq, hB, hb⟩ := h'.at_ hin
  refine (rl_take_of _ _ _ n w (Q := fun a c w' => a = .bool (!decide (inB g s (L n) (xs ++ ys))) ∧ c = .int .i64 0 ∧ ∃ F', RelR w' F' p g s k b (upd L n (insB g s (L n) (xs ++ ys))) ∧ (∀ j, F' j → F j ∨ w.heap.size ≤ j) ∧ Turned F w w') (ask_bool_in h' n _ hn hin hx hq (takec_any q _ _ _ _ r0 r1 ((binsert_in hb B1 B2 c1 c2 A1 A2 xs ys hc1 hc2 (h1.keep hB1 rk) (h2.keep hB2 rk) (Nat.le_trans hB1 rk.size) (Nat.le_trans hB2 rk.size)).mono fun e w' hh => ?_))) ⟨_, _, _, rfl⟩ ⟨_, _, _, rfl⟩).mono fun e w' hh => ?_
  · obtain ⟨e1, F', e2, e3, e4⟩ := hh
    have hm := List.mem_of_getElem? hx
    refine ⟨_, _, e1, rfl, rfl, _, (h'.put hin hx hq e2 e3 e4).r, fun j hj => ?_, (Turned.of_keep (F := F) rk).trans e4 fun j hj => Or.inl (h'.fs x hm j hj)⟩
    rcases hj with e | e
    · exact Or.inl e
    · exact Or.inr (Nat.le_trans rk.size e.1)
  · obtain ⟨a, c, e1, rfl, rfl, e2⟩ := hh
    exact ⟨e1, e2⟩
/-- .. that does not fit. -/
theorem rl_take_dim (h : RelR w F p g s k b L) (n : Nat) (hn : n < 18446744073709551616) (hin : winIn b k n = true) (n1 n2 c1 c2 : Nat) (A1 A2 : Option Addr) (hd : n1 ≠ g ∨ n2 ≠ s) :
    Calls Try.prog 10 #[.pointer (some ⟨p, 0, none⟩), .int .u64 (n : Int), .agg #[.slice A1 n1 c1, .slice A2 n2 c2]] w fun e w' => e = .returned (.tuple #[.bool false, .int .i64 21]) ∧ Keep w w' := by
  obtain ⟨wb, S, h⟩ := h
  obtain ⟨r0, r1, rk⟩ := row_block w (.slice A1 n1 c1) (.slice A2 n2 c2)
  have h' := h.keep rk
  obtain ⟨x, q, hx, hq, hB, hb⟩ := h'.at_ hin
  refine (rl_take_of _ _ _ n w (Q := fun a c w' => a = .bool false ∧ c = .int .i64 21 ∧ Keep w w') (ask_bool_in h' n _ hn hin hx hq (takec_any q _ _ _ _ r0 r1 ((binsert_dim hb n1 n2 c1 c2 A1 A2 hd).mono fun e w' hh => ⟨_, _, hh.1, rfl, rfl, rk.trans hh.2⟩))) ⟨_, _, _, rfl⟩ ⟨_, _, _, rfl⟩).mono fun e w' hh => ?_
  obtain ⟨a, c, e1, rfl, rfl, e2⟩ := hh
  exact ⟨e1, e2⟩
theorem rl_take_out (h : RelR w F p g s k b L) (n : Nat) (hn : n < 18446744073709551616) (hin : winIn b k n = false) (n1 n2 c1 c2 : Nat) (A1 A2 : Option Addr) :
    Calls Try.prog 10 #[.pointer (some ⟨p, 0, none⟩), .int .u64 (n : Int), .agg #[.slice A1 n1 c1, .slice A2 n2 c2]] w fun e w' => e = .returned (.tuple #[.bool false, .int .i64 23]) ∧ Keep w w' := by
  obtain ⟨wb, S, h⟩ := h
  obtain ⟨r0, r1, rk⟩ := row_block w (.slice A1 n1 c1) (.slice A2 n2 c2)
  have h' := h.keep rk
  refine (rl_take_of _ _ _ n w (Q := fun a c w' => a = .bool false ∧ c = .int .i64 23 ∧ Keep w w') ((ask_bool_out h' n _ hn hin).mono fun e w' hh => ⟨_, _, hh.1, rfl, rfl, hh.2 ▸ rk⟩) ⟨_, _, _, rfl⟩ ⟨_, _, _, rfl⟩).mono fun e w' hh => ?_
  obtain ⟨a, c, e1, rfl, rfl, e2⟩ := hh
  exact ⟨e1, e2⟩
end
end Go.Proofs.Ytgelalbmhllccaa
/- The landed relay: Send. -/
namespace Go.Proofs.Ytgelalbmhllccaa
open Go.RowKit Lin
set_option linter.unusedVariables false
set_option linter.unusedSimpArgs false
section
variable {w : World} {F : Nat → Prop} {g s q : Nat} {B : List (List Nat)}
end
section
variable {w : World} {F : Nat → Prop} {p g s k b wb B1 cb m : Nat} {L : Nat → List (List Nat)} {Ab : Option Addr} {xs : List Nat}
end
end Go.Proofs.Ytgelalbmhllccaa
