/- Timers plainly: alarms by rising names, what is due in order, what is due anew. -/
import Derived.WalkKit
import Derived.Test.YtjjoieahodfikaaProg
import Derived.Test.YtjjoieahodfikaaQaa
import Derived.WalkSpells
import Derived.Lib.Hide
import Derived.Deep.RegionHeld3
import Derived.Deep.AppendLies
import Derived.Deep.QuietTactic
import Derived.BigQuiet
import Derived.Tactics
import Derived.StillTailTactics
import Derived.Maps.OwnOps
import Derived.Maps.Views
import Derived.Maps.OwnSet
import Derived.Maps.RangeWalk
import Derived.WideKeyArgs
import Derived.ChangeKeysEq
namespace Go.Proofs.Ytjjoieahodfikaa.Tmr
set_option linter.unusedVariables false
structure Alarm where
  name : Nat
  every : Nat
  due : Nat
/-- The last time. -/
def maxT : Nat := 1099511627776
def later (c e : Nat) : Nat := min (c + e) maxT
/-- By rising names. -/
def Rising (l : List Alarm) : Prop := l.Pairwise fun a b => a.name < b.name
/-- Ahead of: by rising times, of one time by rising names. -/
def Ahead (a b : Alarm) : Prop := a.due < b.due ∨ (a.due = b.due ∧ a.name < b.name)
theorem Ahead.trans {a b c : Alarm} (h : Ahead a b) (k : Ahead b c) : Ahead a c := by unfold Ahead at *; omega
theorem Ahead.irrefl (a : Alarm) : ¬ Ahead a a := by unfold Ahead; omega
/-- In order. -/
def Ordered (l : List Alarm) : Prop := l.Pairwise Ahead
/-- Set: in between. -/
def setL (a : Alarm) : List Alarm → List Alarm
  | [] => [a]
  | b :: r => if b.name < a.name then b :: setL a r else a :: b :: r
def stopL (n : Nat) (l : List Alarm) : List Alarm := l.filter fun a => decide (a.name ≠ n)
def anew (c : Nat) (a : Alarm) : Alarm := ⟨a.name, a.every, later c a.every⟩
def againL (c n : Nat) (l : List Alarm) : List Alarm := l.map fun a => if a.name = n then anew c a else a
/-- What is due, put in one by one. -/
def putDue (a : Alarm) : List Alarm → List Alarm
  | [] => [a]
  | b :: r => if b.due ≤ a.due then b :: putDue a r else a :: b :: r
def dueL (c : Nat) (l : List Alarm) : List Alarm := l.foldl (fun d a => if c < a.due then d else putDue a d) []
def tickL (c : Nat) (l : List Alarm) : List Alarm := l.map fun a => if a.due ≤ c then anew c a else a
def isIn (n : Nat) (l : List Alarm) : Prop := ∃ a ∈ l, a.name = n
theorem mem_setL {a x : Alarm} : ∀ {l : List Alarm}, x ∈ setL a l ↔ x = a ∨ x ∈ l
  | [] => by simp [setL]
  | b :: r => by
    unfold setL
    split
    · rw [List.mem_cons, mem_setL (l := r), List.mem_cons]
      constructor
      · rintro (h | h | h)
        · exact Or.inr (Or.inl h)
        · exact Or.inl h
        · exact Or.inr (Or.inr h)
      · rintro (h | h | h)
        · exact Or.inr (Or.inl h)
        · exact Or.inl h
        · exact Or.inr (Or.inr h)
    · simp
theorem rising_setL {a : Alarm} : ∀ {l : List Alarm}, Rising l → ¬ isIn a.name l → Rising (setL a l)
  | [], _, _ => by simp [setL, Rising]
  | b :: r, h, hn => by
    unfold Rising at h
    rw [List.pairwise_cons] at h
    have hr : ¬ isIn a.name r := fun ⟨x, hx, e⟩ => hn ⟨x, List.mem_cons_of_mem _ hx, e⟩
    have hb : b.name ≠ a.name := fun e => hn ⟨b, List.mem_cons_self, e⟩
    unfold setL
    split
    · rename_i hlt
      refine List.pairwise_cons.2 ⟨fun x hx => ?_, rising_setL h.2 hr⟩
      rcases mem_setL.1 hx with rfl | hx
      · exact hlt
      · exact h.1 x hx
    · refine List.pairwise_cons.2 ⟨fun x hx => ?_, List.pairwise_cons.2 h⟩
      rcases List.mem_cons.1 hx with rfl | hx
      · omega
      · have := h.1 x hx; omega
theorem rising_stopL {n : Nat} {l : List Alarm} (h : Rising l) : Rising (stopL n l) := List.Pairwise.filter _ h
theorem rising_map {l : List Alarm} (f : Alarm → Alarm) (hf : ∀ a, (f a).name = a.name) (h : Rising l) : Rising (l.map f) := by
  unfold Rising
  rw [List.pairwise_map]
  exact h.imp fun {a b} hab => by rw [hf, hf]; exact hab
theorem rising_againL {c n : Nat} {l : List Alarm} (h : Rising l) : Rising (againL c n l) := rising_map _ (fun a => by split <;> rfl) h
theorem putDue_perm (a : Alarm) : ∀ l : List Alarm, (putDue a l).Perm (a :: l)
  | [] => List.Perm.refl _
  | b :: r => by
    unfold putDue
    split
    · exact ((putDue_perm a r).cons b).trans (List.Perm.swap a b r)
    · exact List.Perm.refl _
theorem putDue_ordered {a : Alarm} : ∀ {l : List Alarm}, Ordered l → (∀ b ∈ l, b.name < a.name) → Ordered (putDue a l)
  | [], _, _ => by simp [putDue, Ordered]
  | b :: r, h, hn => by
    unfold Ordered at h
    rw [List.pairwise_cons] at h
    unfold putDue
    split
    · rename_i hle
      refine List.pairwise_cons.2 ⟨fun x hx => ?_, putDue_ordered h.2 fun y hy => hn y (List.mem_cons_of_mem _ hy)⟩
      rcases List.mem_cons.1 ((putDue_perm a r).mem_iff.1 hx) with rfl | hx
      · have := hn b List.mem_cons_self
        unfold Ahead; omega
      · exact h.1 x hx
    · rename_i hle
      refine List.pairwise_cons.2 ⟨fun x hx => ?_, List.pairwise_cons.2 h⟩
      rcases List.mem_cons.1 hx with rfl | hx
      · unfold Ahead; omega
      · have := h.1 x hx
        unfold Ahead at *; omega
theorem due_go (c : Nat) : ∀ (l d : List Alarm), Rising l → Ordered d → (∀ b ∈ d, ∀ a ∈ l, b.name < a.name) →
    Ordered (l.foldl (fun d a => if c < a.due then d else putDue a d) d) ∧ (l.foldl (fun d a => if c < a.due then d else putDue a d) d).Perm (d ++ l.filter fun a => decide (a.due ≤ c))
  | [], d, _, h, _ => ⟨h, by simp⟩
  | a :: r, d, hl, h, hb => by
    unfold Rising at hl
    rw [List.pairwise_cons] at hl
    rw [List.foldl_cons]
    by_cases hc : c < a.due
    · rw [if_pos hc]
      have ih := due_go c r d hl.2 h fun b hbm x hx => hb b hbm x (List.mem_cons_of_mem _ hx)
      rw [List.filter_cons, if_neg (by simp; omega)]
      exact ih
    · rw [if_neg hc]
      have ih := due_go c r (putDue a d) hl.2 (putDue_ordered h fun b hbm => hb b hbm a List.mem_cons_self) fun b hbm x hx => by
        rcases List.mem_cons.1 ((putDue_perm a d).mem_iff.1 hbm) with rfl | hbm
        · exact hl.1 x hx
        · exact hb b hbm x (List.mem_cons_of_mem _ hx)
      rw [List.filter_cons, if_pos (by simp; omega)]
      refine ⟨ih.1, ih.2.trans ?_⟩
      exact ((putDue_perm a d).append_right _).trans List.perm_middle.symm
theorem dueL_ordered {c : Nat} {l : List Alarm} (h : Rising l) : Ordered (dueL c l) := (due_go c l [] h List.Pairwise.nil (fun b hb => by cases hb)).1
theorem dueL_perm {c : Nat} {l : List Alarm} (h : Rising l) : (dueL c l).Perm (l.filter fun a => decide (a.due ≤ c)) := by
  have := (due_go c l [] h List.Pairwise.nil (fun b hb => by cases hb)).2
  rwa [List.nil_append] at this
theorem mem_dueL {c : Nat} {l : List Alarm} (h : Rising l) {a : Alarm} : a ∈ dueL c l ↔ a ∈ l ∧ a.due ≤ c := by
  rw [(dueL_perm h).mem_iff, List.mem_filter]; simp
/-- Each of what is due, anew, one behind the other: all of them at once. -/
theorem again_fold (c : Nat) : ∀ (d l : List Alarm), d.foldl (fun l a => againL c a.name l) l = l.map fun x => if ∃ a ∈ d, a.name = x.name then anew c x else x
  | [], l => by simp
  | a :: d, l => by
    rw [List.foldl_cons, again_fold c d]
    unfold againL
    rw [List.map_map]
    refine List.map_congr_left fun x _ => ?_
    simp only [Function.comp]
    by_cases h1 : x.name = a.name
    · rw [if_pos h1, if_pos (c := ∃ b ∈ a :: d, b.name = x.name) ⟨a, List.mem_cons_self, h1.symm⟩]
      split <;> rfl
    · rw [if_neg h1]
      by_cases h2 : ∃ b ∈ d, b.name = x.name
      · rw [if_pos h2]
        obtain ⟨b, hb, e⟩ := h2
        rw [if_pos ⟨b, List.mem_cons_of_mem _ hb, e⟩]
      · rw [if_neg h2, if_neg]
        rintro ⟨b, hb, e⟩
        rcases List.mem_cons.1 hb with rfl | hb
        · exact h1 e.symm
        · exact h2 ⟨b, hb, e⟩
theorem rising_inj {l : List Alarm} (h : Rising l) {a b : Alarm} (ha : a ∈ l) (hb : b ∈ l) (e : a.name = b.name) : a = b := by
  induction l with
  | nil => cases ha
  | cons x l ih =>
    unfold Rising at h
    rw [List.pairwise_cons] at h
    rcases List.mem_cons.1 ha with h1 | ha <;> rcases List.mem_cons.1 hb with h2 | hb
    · rw [h1, h2]
    · have := h.1 b hb; rw [← h1] at this; omega
    · have := h.1 a ha; rw [← h2] at this; omega
    · exact ih h.2 ha hb
theorem tick_fold {c : Nat} {l : List Alarm} (h : Rising l) : (dueL c l).foldl (fun l a => againL c a.name l) l = tickL c l := by
  rw [again_fold]
  refine List.map_congr_left fun x hx => ?_
  by_cases hd : x.due ≤ c
  · rw [if_pos hd, if_pos ⟨x, (mem_dueL h).2 ⟨hx, hd⟩, rfl⟩]
  · rw [if_neg hd, if_neg]
    rintro ⟨a, ha, e⟩
    obtain ⟨h1, h2⟩ := (mem_dueL h).1 ha
    obtain rfl := rising_inj h h1 hx e
    exact hd h2
/-- The least time at which an alarm is due. -/
def nextL : List Alarm → Nat
  | [] => 0
  | [a] => a.due
  | a :: b :: r => min a.due (nextL (b :: r))
theorem nextL_le : ∀ {l : List Alarm} {a : Alarm}, a ∈ l → nextL l ≤ a.due
  | [b], a, h => by simp at h; subst h; exact Nat.le_refl _
  | b :: x :: r, a, h => by
    rcases List.mem_cons.1 h with rfl | h
    · exact Nat.min_le_left _ _
    · exact Nat.le_trans (Nat.min_le_right _ _) (nextL_le h)
theorem nextL_mem : ∀ {l : List Alarm}, l ≠ [] → ∃ a ∈ l, a.due = nextL l
  | [], h => absurd rfl h
  | [b], _ => ⟨b, List.mem_cons_self, rfl⟩
  | b :: x :: r, _ => by
    obtain ⟨a, ha, e⟩ := nextL_mem (l := x :: r) (by simp)
    show ∃ a ∈ b :: x :: r, a.due = min b.due (nextL (x :: r))
    by_cases h : b.due ≤ nextL (x :: r)
    · exact ⟨b, List.mem_cons_self, by omega⟩
    · exact ⟨a, List.mem_cons_of_mem _ ha, by omega⟩
end Go.Proofs.Ytjjoieahodfikaa.Tmr
/- What a call hands back that lays bytes in new memory. -/
namespace Go.Proofs.Ytjjoieahodfikaa
open Go.RowKit
/-- .. and an error. -/
def NewPair (w : World) (xs : List Nat) (er : Int) (r : Ending) (w' : World) : Prop :=
  ∃ A n c, r = .returned (.tuple #[.slice A n c, .int .i64 er]) ∧ Own w' w.heap.size 5 A n c xs ∧ Keep w w'
theorem NewPair.nil (w : World) (er : Int) : NewPair w [] er (.returned (.tuple #[.slice none 0 0, .int .i64 er])) w := ⟨none, 0, 0, rfl, Own.none_ _ _ _, Keep.refl _⟩
end Go.Proofs.Ytjjoieahodfikaa
/- The document's own timers: how they lie; later, at. -/
namespace Go.Proofs.Ytjjoieahodfikaa
open Go.RowKit Tmr
set_option linter.unusedVariables false
set_option linter.unusedSimpArgs false
def almV (a : Alarm) : List Value := [.int .i64 (a.name : Int), .int .u64 (a.every : Int), .int .u64 (a.due : Int)]
theorem almL : Laid almV 3 := ⟨fun a => rfl, fun a u hu => by simp [almV] at hu; rcases hu with rfl | rfl | rfl <;> rfl⟩
/-- An alarm that may be. -/
def FineA (a : Alarm) : Prop := a.name < 9223372036854775808 ∧ 1 ≤ a.every ∧ a.every ≤ maxT ∧ a.due ≤ maxT
/-- The document's timers in block g: their clock, their alarms. -/
structure TmD (w : World) (B g clk : Nat) (A : Option Addr) (n c : Nat) (l : List Alarm) : Prop where
  block : w.heap[g]? = some (.cells #[.int .u64 (clk : Int), .slice A n c] 30 (0, 0))
  als : SAt almV 3 w B A n c l
  ap : ∀ b, (Value.slice A n c).ownBlock = some b → b ≠ g
  low : B ≤ g
  rising : Rising l
  clock : clk ≤ maxT
  fine : ∀ a ∈ l, FineA a
  few : n ≤ 100000
namespace TmD
variable {w w' : World} {B g clk n c : Nat} {A : Option Addr} {l : List Alarm}
theorem lt (h : TmD w B g clk A n c l) : g < w.heap.size := (Array.getElem?_eq_some_iff.1 h.block).1
theorem c0 (h : TmD w B g clk A n c l) : w.cell? ⟨g, 0, none⟩ = some (.int .u64 (clk : Int)) := by unfold World.cell?; rw [h.block]; rfl
theorem c1 (h : TmD w B g clk A n c l) : w.cell? ⟨g, 1, none⟩ = some (.slice A n c) := by unfold World.cell?; rw [h.block]; rfl
theorem f0 (h : TmD w B g clk A n c l) : w.frozen? ⟨g, 0, none⟩ = false := by simp [World.frozen?, h.block]
theorem f1 (h : TmD w B g clk A n c l) : w.frozen? ⟨g, 1, none⟩ = false := by simp [World.frozen?, h.block]
theorem turned {G : Nat → Prop} (h : TmD w B g clk A n c l) (t : Turned G w w') (h1 : ¬ G g) (h2 : ∀ b, (Value.slice A n c).ownBlock = some b → ¬ G b) : TmD w' B g clk A n c l :=
  ⟨(t.block g h.lt h1).trans h.block, h.als.turned t h2, h.ap, h.low, h.rising, h.clock, h.fine, h.few⟩
theorem keep (h : TmD w B g clk A n c l) (t : Keep w w') : TmD w' B g clk A n c l := h.turned (Turned.of_keep (F := fun _ => False) t) (fun e => e) (fun _ _ e => e)
/-- One of its alarms: where its cells are. -/
theorem one (h : TmD w B g clk A n c l) {i : Nat} (hi : i < n) : ∃ b off a, A = some ⟨b, off, none⟩ ∧ l[i]? = some a ∧ w.cell? ⟨b, off + i * 3, none⟩ = some (.int .i64 (a.name : Int)) ∧ w.cell? ⟨b, off + i * 3 + 1, none⟩ = some (.int .u64 (a.every : Int)) ∧ w.cell? ⟨b, off + i * 3 + 2, none⟩ = some (.int .u64 (a.due : Int)) ∧ FineA a := by
  obtain ⟨b, off, a, e, h1, h2, h3, h4⟩ := h.als.at_ almL hi
  exact ⟨b, off, a, e, h3, h4 0 _ rfl, h4 1 _ rfl, h4 2 _ rfl, h.fine a (List.mem_of_getElem? h3)⟩
end TmD
section
variable {w : World} {B g clk n c : Nat} {A : Option Addr} {l : List Alarm}
theorem dlater (h : TmD w B g clk A n c l) (e : Nat) (he : e ≤ maxT) : Calls Try.prog 26 #[.pointer (some ⟨g, 0, none⟩), .int .u64 (e : Int)] w fun r w' => r = .returned (.int .u64 (later clk e : Nat)) ∧ w' = w := by
  have c0 := h.c0
  have hc := h.clock
  unfold maxT at hc he
  obtain ⟨t, ht⟩ : ∃ t, clk + e = t := ⟨_, rfl⟩
  have e1 : IntKind.u64.wrap ((clk : Int) + (e : Int)) = (t : Int) := by rw [IntWalk.u64_in _ (by omega)]; omega
  unfold later maxT
  rw [ht]
  by_cases hm : 1099511627776 < t
  · have d1 : decide ((1099511627776 : Int) < (t : Int)) = true := decide_eq_true (by omega)
    rw [show min t 1099511627776 = 1099511627776 by omega]
    clear ht hm hc he h
    go_enter Try.func26, Try.ntmps26
    go_wp2_with fail
    go_ret
    exact ⟨rfl, rfl⟩
  · have d1 : decide ((1099511627776 : Int) < (t : Int)) = false := decide_eq_false (by omega)
    rw [show min t 1099511627776 = t by omega]
    clear ht hm hc he h
    go_enter Try.func26, Try.ntmps26
    go_wp2_with fail
    go_ret
    exact ⟨rfl, rfl⟩
/-- Where an alarm of that name lies, or -1. -/
def IsAt (l : List Alarm) (x r : Int) : Prop := (∃ (k : Nat) (a : Alarm), r = (k : Int) ∧ l[k]? = some a ∧ (a.name : Int) = x) ∨ (r = -1 ∧ ∀ a ∈ l, (a.name : Int) ≠ x)
set_option maxHeartbeats 1000000 in
theorem dat (h : TmD w B g clk A n c l) (x : Int) : Calls Try.prog 25 #[.pointer (some ⟨g, 0, none⟩), .int .i64 x] w fun r w' => ∃ v, r = .returned (.int .i64 v) ∧ IsAt l x v ∧ w' = w := by
  have H := Lib.hid h
  have c1 := h.c1
  have hn := h.few
  have HF := Lib.hid hn
  clear h hn
  go_enter Try.func25, Try.ntmps25
  go_wp2_with fail
  go_loopw [5] (fun iv wr => ∃ i : Nat, i ≤ n ∧ iv = .int .i64 i ∧ wr = w ∧ ∀ j a, j < i → l[j]? = some a → (a.name : Int) ≠ x) (fun iv _ => n - (intOf iv).toNat)
  case atStart => exact ⟨0, by omega, rfl, rfl, fun j a hj => by omega⟩
  case round =>
    obtain ⟨i, hi, rfl, hwr, hno⟩ := hrel
    obtain rfl : w = wr := hwr.symm
    have HNO := Lib.hid hno
    clear hno
    have hn : n ≤ 100000 := HF.out
    by_cases hlt : i < n
    · obtain ⟨b, off, a, rfl, hla, a0, a1, a2, hfa⟩ := H.out.one hlt
      have g0 : (0 : Int) ≤ (i : Int) := Int.natCast_nonneg _
      have g1 : (i : Int) < (n : Int) := by omega
      have HLA := Lib.hid hla
      clear hla hfa
      by_cases hx : (a.name : Int) = x
      · subst hx
        go_wp2_with fail
        go_ret
        exact ⟨(i : Int), rfl, Or.inl ⟨i, a, rfl, HLA.out, rfl⟩, rfl⟩
      · have d1 : decide ((a.name : Int) = x) = false := decide_eq_false hx
        have d2 : ((a.name : Int) == x) = false := beq_eq_false_iff_ne.2 hx
        have HX := Lib.hid hx
        clear hx
        go_wp2_with fail
        go_round
        case rel => exact ⟨i + 1, by omega, by go_num, by first | trivial | rfl, fun j a' hj hl' => by
          rcases Nat.lt_or_ge j i with h1 | h1
          · exact HNO.out j a' h1 hl'
          · obtain rfl : j = i := by omega
            rw [HLA.out] at hl'
            injection hl' with hl'
            subst hl'
            exact HX.out⟩
        case measure => simp [intOf]; omega
    · obtain rfl : i = n := by omega
      go_wp2_with fail
      go_ret
      refine ⟨-1, rfl, Or.inr ⟨rfl, fun a ha => ?_⟩, rfl⟩
      obtain ⟨j, hj, e⟩ := List.getElem_of_mem ha
      exact HNO.out j a (by have := H.out.als.length; omega) (by rw [List.getElem?_eq_getElem hj, e])
end
end Go.Proofs.Ytjjoieahodfikaa
/- A region that draws its order, walked by hand: what is held may grow on the way. -/
namespace Go.Proofs.Ytjjoieahodfikaa

section
variable {P : Program} {ops : Array Oper} {Q : Exit → Act → World → Prop} {md : Region.Mode} {S S' : World → Prop}
end
end Go.Proofs.Ytjjoieahodfikaa
/- The document's own timers: Stop, Again. -/
namespace Go.Proofs.Ytjjoieahodfikaa
open Go.RowKit Tmr
set_option linter.unusedVariables false
set_option linter.unusedSimpArgs false
theorem infoAlm : (Try.prog.info? 49).map (fun i => (i.zero, i.size, i.bytes)) = some (some (.agg #[.int .i64 0, .int .u64 0, .int .u64 0]), 3, 24) := by kernel_rfl
theorem elemAlm : Try.prog.elem 28 = 49 := by kernel_rfl
theorem infoAlmE : (Try.prog.info? (Try.prog.elem 28)).map (fun i => (i.zero, i.size, i.bytes)) = some (some (.agg #[.int .i64 0, .int .u64 0, .int .u64 0]), 3, 24) := by rw [elemAlm]; exact infoAlm
theorem undAlm : Try.prog.underlying 28 = some (.slice (Try.prog.elem 28)) := by rw [elemAlm]; exact Try.underlying28
/-- What Stop leaves is what was, without one. -/
theorem stopL_at {l : List Alarm} (h : Rising l) {k : Nat} {a : Alarm} (hk : l[k]? = some a) : stopL a.name l = l.take k ++ l.drop (k + 1) := by
  induction l generalizing k with
  | nil => simp at hk
  | cons b r ih =>
    unfold Rising at h
    rw [List.pairwise_cons] at h
    cases k with
    | zero =>
      simp at hk
      subst hk
      show (b :: r).filter _ = _
      rw [List.filter_cons, if_neg (by simp)]
      simp only [List.take_zero, List.nil_append, List.drop_succ_cons, List.drop_zero]
      rw [List.filter_eq_self]
      intro x hx
      have := h.1 x hx
      simp; omega
    | succ k =>
      have hm : a ∈ r := List.mem_of_getElem? (by simpa using hk)
      have hne := h.1 a hm
      have ih' := ih h.2 (k := k) (by simpa using hk)
      show (b :: r).filter _ = _
      rw [List.filter_cons, if_pos (by simp; omega)]
      simp only [List.take_succ_cons, List.drop_succ_cons, List.cons_append]
      congr 1
section
variable {w : World} {B g clk n c : Nat} {A : Option Addr} {l : List Alarm}
theorem rising_at {l : List Alarm} (h : Rising l) {j k : Nat} {a b : Alarm} (hj : l[j]? = some b) (hk : l[k]? = some a) (e : b.name = a.name) : j = k := by
  have h1 := List.getElem?_eq_some_iff.1 hj
  have h2 := List.getElem?_eq_some_iff.1 hk
  obtain ⟨j1, j2⟩ := h1
  obtain ⟨k1, k2⟩ := h2
  rcases Nat.lt_trichotomy j k with hlt | he | hlt
  · have hp := List.pairwise_iff_getElem.1 h j k j1 k1 hlt
    rw [j2, k2] at hp; omega
  · exact he
  · have hp := List.pairwise_iff_getElem.1 h k j k1 j1 hlt
    rw [j2, k2] at hp; omega
theorem dat_in (h : TmD w B g clk A n c l) {k : Nat} {a : Alarm} (hk : l[k]? = some a) : Calls Try.prog 25 #[.pointer (some ⟨g, 0, none⟩), .int .i64 (a.name : Int)] w fun r w' => r = .returned (.int .i64 (k : Int)) ∧ w' = w :=
  (dat h (a.name : Int)).mono fun r w' ⟨v, e, hv, hw⟩ => by
    refine ⟨?_, hw⟩
    rcases hv with ⟨j, b, rfl, hj, hn⟩ | ⟨_, hno⟩
    · rw [e, rising_at h.rising hj hk (by omega)]
    · exact absurd rfl (hno a (List.mem_of_getElem? hk))
theorem dat_none (h : TmD w B g clk A n c l) {x : Int} (hx : ∀ a ∈ l, (a.name : Int) ≠ x) : Calls Try.prog 25 #[.pointer (some ⟨g, 0, none⟩), .int .i64 x] w fun r w' => r = .returned (.int .i64 (-1)) ∧ w' = w :=
  (dat h x).mono fun r w' ⟨v, e, hv, hw⟩ => by
    refine ⟨?_, hw⟩
    rcases hv with ⟨j, b, rfl, hj, hn⟩ | ⟨rfl, _⟩
    · exact absurd hn (hx b (List.mem_of_getElem? hj))
    · exact e
theorem dstop_none (h : TmD w B g clk A n c l) {x : Int} (hx : ∀ a ∈ l, (a.name : Int) ≠ x) : Calls Try.prog 13 #[.pointer (some ⟨g, 0, none⟩), .int .i64 x] w fun r w' => r = .returned (.int .i64 6) ∧ w' = w := by
  have C := Lib.hid (dat_none h hx)
  clear hx
  go_enter Try.func13, Try.ntmps13
  go_wp2_with fail
  refine C.out.mono ?_
  rintro e w1 ⟨rfl, rfl⟩
  go_wp2_with fail
  go_ret
  exact ⟨rfl, rfl⟩
theorem dagain_none (h : TmD w B g clk A n c l) {x : Int} (hx : ∀ a ∈ l, (a.name : Int) ≠ x) : Calls Try.prog 15 #[.pointer (some ⟨g, 0, none⟩), .int .i64 x] w fun r w' => r = .returned (.int .i64 6) ∧ w' = w := by
  have C := Lib.hid (dat_none h hx)
  clear hx
  go_enter Try.func15, Try.ntmps15
  go_wp2_with fail
  refine C.out.mono ?_
  rintro e w1 ⟨rfl, rfl⟩
  go_wp2_with fail
  go_ret
  exact ⟨rfl, rfl⟩
set_option maxRecDepth 100000 in
set_option maxHeartbeats 4000000 in
theorem dstop_in (h : TmD w B g clk A n c l) {k : Nat} {a : Alarm} (hk : l[k]? = some a) : Calls Try.prog 13 #[.pointer (some ⟨g, 0, none⟩), .int .i64 (a.name : Int)] w fun r w' => ∃ A' c', r = .returned (.int .i64 0) ∧ TmD w' B g clk A' (n - 1) c' (stopL a.name l) ∧ Turned (fun b => b = g) w w' := by
  have hkn : k < n := by rw [← h.als.length]; exact (List.getElem?_eq_some_iff.1 hk).1
  have hcp := h.als.cap
  have hfew := h.few
  have hln := h.als.length
  have hglt := h.lt
  have hlow := h.low
  have CA := Lib.hid (dat_in h hk)
  have HST := Lib.hid (stopL_at h.rising hk)
  have hA : ∃ ga oa, A = some ⟨ga, oa, none⟩ := by
    obtain ⟨b, off, _, e, _⟩ := h.one hkn
    exact ⟨b, off, e⟩
  obtain ⟨ga, oa, rfl⟩ := hA
  -- t.L[:k]
  have q1 := run_head_sa (P := Try.prog) (t := 28) (k := 3) undAlm infoAlmE n c k (some ⟨ga, oa, none⟩) (by omega)
  have hsrc1 : ∀ ad, (some ⟨ga, oa, none⟩ : Option Addr) = some ad → ∀ j u, ((l.take k).flatMap almV)[j]? = some u → w.cell? (ad.add j) = some u := fun ad e j u hu => by
    injection e with e; subst e
    rw [Addr.add_lit]
    have e : l.flatMap almV = (l.take k).flatMap almV ++ (l.drop k).flatMap almV := by rw [← List.flatMap_append, List.take_append_drop]
    have := h.als.tail almL 0 j u (by rw [List.drop_zero, e, List.getElem?_append_left (List.getElem?_eq_some_iff.1 hu).1]; exact hu)
    simpa using this
  obtain ⟨A2, c2, w1, r1, s1, t1, _, o1⟩ := run_append_sa (P := Try.prog) (w := w) (base := w.heap.size) (m := k) (cx := c) (A := none) (B := some ⟨ga, oa, none⟩) (n := 0) (c := 0) (ws := []) (news := l.take k) almL (by decide) Try.underlying28 infoAlm rfl (SAt.nothing w _) (by rw [List.length_take]; omega) hsrc1 (fun e => by cases e) (by omega) (by decide) (Nat.le_refl _) 28
  have k1 : Keep w w1 := t1.keep_new fun i e => by simp [Value.ownBlock] at e
  rw [Nat.zero_add, List.nil_append] at s1
  rw [Nat.zero_add] at r1 o1
  -- t.L[k+1:]
  have h1 := h.keep k1
  have q2 := run_tail_sa (P := Try.prog) (t := 28) (k := 3) undAlm infoAlmE n c (k + 1) (some ⟨ga, oa, none⟩) (by omega) (x := (k : Int) + 1) (by omega)
  have hsrc2 : ∀ ad, dropK 3 (some ⟨ga, oa, none⟩) c (k + 1) = some ad → ∀ j u, ((l.drop (k + 1)).flatMap almV)[j]? = some u → w1.cell? (ad.add j) = some u := fun ad e j u hu => by
    by_cases hc : c = k + 1
    · rw [List.drop_of_length_le (by omega)] at hu; simp at hu
    · rw [dropK_some 3 ga oa c (k + 1) (by omega)] at e
      injection e with e; subst e
      rw [Addr.add_lit]
      exact h1.als.tail almL (k + 1) j u hu
  have hdn : dropK 3 (some ⟨ga, oa, none⟩) c (k + 1) = none → n - (k + 1) = 0 := fun e => by
    unfold dropK at e; split at e <;> cases e
  obtain ⟨A3, c3, w2, r2, s2, t2, _, o2⟩ := run_append_sa (P := Try.prog) (w := w1) (base := w.heap.size) (m := n - (k + 1)) (cx := c - (k + 1)) almL (by decide) Try.underlying28 infoAlm rfl s1 (by rw [List.length_drop]; omega) hsrc2 hdn (by omega) (by decide) k1.size 28
  rw [show k + (n - (k + 1)) = n - 1 by omega] at r2 s2 o2
  have hnew : ∀ b, (Value.slice A2 k c2).ownBlock = some b → w.heap.size ≤ b := fun b e => (s1.block b e).1
  have k2 : Keep w w2 := t2.keep k1 hnew
  have h2 := h.keep k2
  have hnew3 : ∀ b, (Value.slice A3 (n - 1) c3).ownBlock = some b → w.heap.size ≤ b := fun b e => (s2.block b e).1
  have TS : Turned (fun b => b = g) w2 (w2.setCell ⟨g, 1, none⟩ (.slice A3 (n - 1) c3)) := Turned.set (F := fun b => b = g) w2 ⟨g, 1, none⟩ _ rfl
  have HT : Hid (Turned (fun b => b = g) w (w2.setCell ⟨g, 1, none⟩ (.slice A3 (n - 1) c3))) := (Turned.of_keep (F := fun b => b = g) k2).trans TS fun i e => Or.inl e
  have HR : Hid (TmD (w2.setCell ⟨g, 1, none⟩ (.slice A3 (n - 1) c3)) B g clk A3 (n - 1) c3 (stopL a.name l)) := Lib.hid
    ⟨by simp [World.setCell, Array.getElem?_modify, h2.block], by rw [HST.out]; exact (s2.lower (by omega)).turned TS (fun b e => by have := hnew3 b e; omega), fun b e => by have := hnew3 b e; omega, hlow, rising_stopL h.rising, h.clock, fun b hb => h.fine b ((List.mem_filter.1 hb).1), by omega⟩
  have cw := h.c1
  have cw1 := h1.c1
  have fw2 := h2.f1
  have cw2 := h2.c1
  have x1 : IntKind.i64.wrap ((k : Int) + 1) = (k : Int) + 1 := IntWalk.i64_in _ (by omega)
  have x2 : decide ((k : Int) < 0) = false := decide_eq_false (by omega)
  obtain ⟨D, hD⟩ : ∃ v, dropK 3 (some ⟨ga, oa, none⟩) c (k + 1) = v := ⟨_, rfl⟩
  obtain ⟨m2, hm2⟩ : ∃ v, n - (k + 1) = v := ⟨_, rfl⟩
  obtain ⟨c4, hc4⟩ : ∃ v, c - (k + 1) = v := ⟨_, rfl⟩
  obtain ⟨n3, hn3⟩ : ∃ v, n - 1 = v := ⟨_, rfl⟩
  simp only [hD, hm2, hc4] at q2
  rw [hD, hm2, hc4, hn3] at r2
  rw [hn3] at HT HR
  rw [hn3]
  clear HST hkn hcp hfew hln hglt hlow hsrc1 hsrc2 s1 s2 t1 t2 o1 o2 k1 k2 h1 h2 hnew hnew3 TS hdn hD hm2 hc4 hn3 hk h
  go_enter Try.func13, Try.ntmps13
  go_wp2_with fail
  refine CA.out.mono ?_
  rintro e w3 ⟨rfl, rfl⟩
  go_wp2_with (at_builtin; first | refine wpList_append_is rfl _ _ 28 rfl rfl rfl r1 ?_ | refine wpList_append_is rfl _ _ 28 rfl rfl rfl r2 ?_)
  go_ret
  exact ⟨_, _, rfl, HR.out, HT.out⟩
end
end Go.Proofs.Ytjjoieahodfikaa
/- The document's own timers: Again. -/
namespace Go.Proofs.Ytjjoieahodfikaa
open Go.RowKit Tmr
set_option linter.unusedVariables false
set_option linter.unusedSimpArgs false
/-- One of them is written anew, in its place. -/
theorem SAt.due {w : World} {B n c k : Nat} {gb off : Nat} {l : List Alarm} (h : SAt almV 3 w B (some ⟨gb, off, none⟩) n c l) {a : Alarm} (hk : l[k]? = some a) (d : Nat) :
    SAt almV 3 (w.setCell ⟨gb, off + k * 3 + 2, none⟩ (.int .u64 (d : Int))) B (some ⟨gb, off, none⟩) n c (l.set k ⟨a.name, a.every, d⟩) := by
  have hkl := (List.getElem?_eq_some_iff.1 hk).1
  have hlen := h.length
  have hcp := h.cap
  refine ⟨by rw [List.length_set]; exact hlen, hcp, ?_⟩
  rcases h.lies with ⟨e, _⟩ | ⟨g', off', e, h1, h2, h3, h4⟩
  · cases e
  · injection e with e
    obtain ⟨rfl, rfl⟩ : gb = g' ∧ off = off' := by injection e with e1 e2; exact ⟨e1, e2⟩
    obtain ⟨u0, hu0⟩ := Option.isSome_iff_exists.1 (h4 (k * 3 + 2) (by omega)).1
    rw [← Nat.add_assoc] at hu0
    refine Or.inr ⟨gb, off, rfl, h1, by simpa [World.setCell] using h2, fun j u hu => ?_, fun j hj => ?_⟩
    · by_cases hj : j = k * 3 + 2
      · subst hj
        have e := almL.at_ (l.set k ⟨a.name, a.every, d⟩) k _ (by rw [List.getElem?_set_self hkl]) 2 (.int .u64 (d : Int)) rfl
        rw [e] at hu
        injection hu with hu
        subst hu
        rw [← Nat.add_assoc]
        exact World.cell?_setCell_same (h := hu0) ..
      · rw [show (w.setCell ⟨gb, off + k * 3 + 2, none⟩ (.int .u64 (d : Int))).cell? ⟨gb, off + j, none⟩ = w.cell? ⟨gb, off + j, none⟩ from World.cell?_setCell_other (h := fun e => hj (by injection e with _ e; omega)) ..]
        refine h3 j u ?_
        have hjl : j < (l.set k ⟨a.name, a.every, d⟩).length * 3 := by
          have := (List.getElem?_eq_some_iff.1 hu).1
          rwa [almL.len] at this
        rw [List.length_set] at hjl
        have hi : j / 3 < l.length := by omega
        have e1 := almL.at_ l (j / 3) _ (List.getElem?_eq_getElem hi) (j % 3)
        have hi2 : j / 3 < (l.set k ⟨a.name, a.every, d⟩).length := by rw [List.length_set]; exact hi
        have e2 := almL.at_ (l.set k ⟨a.name, a.every, d⟩) (j / 3) _ (List.getElem?_eq_getElem hi2) (j % 3)
        have ej : j / 3 * 3 + j % 3 = j := by omega
        rw [ej] at e1 e2
        have hm : j % 3 = 0 ∨ j % 3 = 1 ∨ j % 3 = 2 := by omega
        by_cases hjk : j / 3 = k
        · have hget : (l.set k ⟨a.name, a.every, d⟩)[j / 3] = ⟨a.name, a.every, d⟩ := by simp [hjk]
          have hget2 : l[j / 3] = a := by
            have := (List.getElem?_eq_some_iff.1 hk).2
            simp only [hjk]; exact this
          rw [hget] at e2
          rw [hget2] at e1
          rcases hm with hm | hm | hm
          · rw [hm] at e1 e2
            rw [e2 _ rfl] at hu; rw [e1 _ rfl]; exact hu
          · rw [hm] at e1 e2
            rw [e2 _ rfl] at hu; rw [e1 _ rfl]; exact hu
          · omega
        · have hget : (l.set k ⟨a.name, a.every, d⟩)[j / 3] = l[j / 3] := by
            rw [List.getElem_set_ne (fun e => hjk e.symm)]
          rw [hget] at e2
          rcases hm with hm | hm | hm <;> (rw [hm] at e1 e2; rw [e2 _ rfl] at hu; rw [e1 _ rfl]; exact hu)
    · constructor
      · by_cases hj2 : (⟨gb, off + j, none⟩ : Addr) = ⟨gb, off + k * 3 + 2, none⟩
        · rw [hj2, show (w.setCell ⟨gb, off + k * 3 + 2, none⟩ (.int .u64 (d : Int))).cell? ⟨gb, off + k * 3 + 2, none⟩ = some (.int .u64 (d : Int)) from World.cell?_setCell_same (h := hu0) ..]; rfl
        · rw [show (w.setCell ⟨gb, off + k * 3 + 2, none⟩ (.int .u64 (d : Int))).cell? ⟨gb, off + j, none⟩ = w.cell? ⟨gb, off + j, none⟩ from World.cell?_setCell_other (h := fun e => hj2 e.symm) ..]; exact (h4 j hj).1
      · rw [World.frozen?_setCell]; exact (h4 j hj).2
theorem againL_at {l : List Alarm} (h : Rising l) {k : Nat} {a : Alarm} (hk : l[k]? = some a) (clk : Nat) : againL clk a.name l = l.set k (anew clk a) := by
  apply List.ext_getElem?
  intro j
  unfold againL
  rw [List.getElem?_map, List.getElem?_set]
  by_cases hj : k = j
  · subst hj
    rw [if_pos rfl, if_pos (List.getElem?_eq_some_iff.1 hk).1, hk]
    simp
  · rw [if_neg hj]
    cases hb : l[j]? with
    | none => rfl
    | some b =>
      simp only [Option.map_some]
      rw [if_neg (fun e => hj (rising_at h hb hk e).symm)]
section
variable {w : World} {B g clk n c : Nat} {A : Option Addr} {l : List Alarm}
set_option maxRecDepth 100000 in
set_option maxHeartbeats 4000000 in
theorem dagain_in (h : TmD w B g clk A n c l) {k : Nat} {a : Alarm} (hk : l[k]? = some a) : Calls Try.prog 15 #[.pointer (some ⟨g, 0, none⟩), .int .i64 (a.name : Int)] w fun r w' => r = .returned (.int .i64 0) ∧ TmD w' B g clk A n c (againL clk a.name l) ∧ Turned (fun b => (Value.slice A n c).ownBlock = some b) w w' := by
  have hkn : k < n := by rw [← h.als.length]; exact (List.getElem?_eq_some_iff.1 hk).1
  have hfew := h.few
  have hfa := h.fine a (List.mem_of_getElem? hk)
  have CA := Lib.hid (dat_in h hk)
  obtain ⟨gb, off, a', rfl, hka, e0, e1, e2, _⟩ := h.one hkn
  obtain rfl : a = a' := by rw [hk] at hka; injection hka
  have hD := h.keep (Keep.refl w).drew
  have CL := Lib.hid ((dlater hD a.every hfa.2.2.1).mono fun r w' q => (⟨q.1, q.2⟩ : r = Ending.returned (.int .u64 (later clk a.every : Nat)) ∧ w' = w.drew))
  obtain ⟨d, hd⟩ : ∃ d, later clk a.every = d := ⟨_, rfl⟩
  have hdm : d ≤ maxT := by rw [← hd]; unfold later; omega
  have hgb : gb ≠ g := h.ap gb rfl
  have fz : w.drew.frozen? ⟨gb, off + k * 3 + 2, none⟩ = false := by
    rcases hD.als.lies with ⟨e, _⟩ | ⟨g', off', e, h1, h2, h3, h4⟩
    · cases e
    · injection e with e
      obtain ⟨rfl, rfl⟩ : gb = g' ∧ off = off' := by injection e with e1 e2; exact ⟨e1, e2⟩
      have := (h4 (k * 3 + 2) (by have := h.als.cap; omega)).2
      rwa [← Nat.add_assoc] at this
  have TS : Turned (fun b => b = gb) w.drew (w.drew.setCell ⟨gb, off + k * 3 + 2, none⟩ (.int .u64 (d : Int))) := Turned.set (F := fun b => b = gb) w.drew ⟨gb, off + k * 3 + 2, none⟩ _ rfl
  have HT : Hid (Turned (fun b => (Value.slice (some ⟨gb, off, none⟩) n c).ownBlock = some b) w (w.drew.setCell ⟨gb, off + k * 3 + 2, none⟩ (.int .u64 (d : Int)))) := Lib.hid (((Turned.of_keep (F := fun b => b = gb) (Keep.refl w).drew).trans TS fun i e => Or.inl e).mono fun i _ e => by rw [e]; rfl)
  have HR : Hid (TmD (w.drew.setCell ⟨gb, off + k * 3 + 2, none⟩ (.int .u64 (d : Int))) B g clk (some ⟨gb, off, none⟩) n c (againL clk a.name l)) := Lib.hid
    ⟨(TS.block g hD.lt (fun e => hgb e.symm)).trans hD.block, by rw [againL_at h.rising hk, show anew clk a = ⟨a.name, a.every, d⟩ by rw [← hd]; rfl]; exact hD.als.due hk d, h.ap, h.low, rising_againL h.rising, h.clock, fun b hb => by
      obtain ⟨x, hx, e⟩ := List.mem_map.1 hb
      have hfx := h.fine x hx
      split at e
      · subst e; exact ⟨hfx.1, hfx.2.1, hfx.2.2.1, by show later clk x.every ≤ maxT; unfold later; omega⟩
      · subst e; exact hfx, h.few⟩
  rw [hd] at CL
  have cw := hD.c1
  have ew : w.drew.cell? ⟨gb, off + k * 3 + 1, none⟩ = some (.int .u64 (a.every : Int)) := e1
  have ew2 : w.drew.cell? ⟨gb, off + k * 3 + 2, none⟩ = some (.int .u64 (a.due : Int)) := e2
  have g0 : (0 : Int) ≤ (k : Int) := Int.natCast_nonneg _
  have g1 : (k : Int) < (n : Int) := by omega
  have x2 : decide ((k : Int) < 0) = false := decide_eq_false (by omega)
  clear hkn hfew hfa hD TS hdm hd hgb hk hka h
  go_enter Try.func15, Try.ntmps15
  go_wp2_with fail
  refine CA.out.mono ?_
  rintro e w3 ⟨rfl, hw3⟩
  obtain rfl : w = w3 := hw3.symm
  go_wp2_with fail
  refine wp_region_still_tail (w := w) 17 (by kernel_rfl) (by kernel_rfl) ?_
  simp only [List.take_succ_cons, List.take_zero, List.drop_succ_cons, List.drop_zero]
  change wpStill _ _ (World.drew w) _ _ _
  iterate 14 still_step
  still_call CL.out
  iterate 2 still_step
  refine wpStill_nil ?_
  change wpList _ _ _ _ _ (World.drew w)
  go_wp2_with fail
  go_ret
  exact ⟨rfl, HR.out, HT.out⟩
end
end Go.Proofs.Ytjjoieahodfikaa
/- The document's own timers: Set. -/
namespace Go.Proofs.Ytjjoieahodfikaa
open Go.RowKit Tmr
set_option linter.unusedVariables false
set_option linter.unusedSimpArgs false
/-- Set is a cut where the names stop being less. -/
theorem setL_at {a : Alarm} : ∀ {l : List Alarm} {i : Nat}, i ≤ l.length → (∀ j b, j < i → l[j]? = some b → b.name < a.name) → (∀ b, l[i]? = some b → ¬ b.name < a.name) → setL a l = l.take i ++ [a] ++ l.drop i
  | [], i, hi, _, _ => by
    obtain rfl : i = 0 := by simpa using hi
    rfl
  | b :: r, 0, _, _, h2 => by
    unfold setL
    rw [if_neg (h2 b rfl)]
    rfl
  | b :: r, i + 1, hi, h1, h2 => by
    have hb := h1 0 b (by omega) rfl
    have ih := setL_at (a := a) (l := r) (i := i) (by simpa using hi) (fun j c hj hc => h1 (j + 1) c (by omega) (by simpa using hc)) (fun c hc => h2 c (by simpa using hc))
    unfold setL
    rw [if_pos hb, ih]
    rfl
section
variable {w : World} {B g clk n c : Nat} {A : Option Addr} {l : List Alarm}
theorem dset_arg (h : TmD w B g clk A n c l) (x : Int) (e : Nat) (hb : x < 0 ∨ e = 0 ∨ 1099511627776 < e) : Calls Try.prog 11 #[.pointer (some ⟨g, 0, none⟩), .int .i64 x, .int .u64 (e : Int)] w fun r w' => r = .returned (.int .i64 1) ∧ w' = w := by
  clear h
  by_cases h1 : x < 0
  · have d1 : decide (x < 0) = true := decide_eq_true h1
    clear hb
    go_enter Try.func11, Try.ntmps11
    go_wp2_with fail
    go_ret
    exact ⟨rfl, rfl⟩
  · have d1 : decide (x < 0) = false := decide_eq_false h1
    by_cases h2 : e = 0
    · subst h2
      clear hb h1
      go_enter Try.func11, Try.ntmps11
      go_wp2_with fail
      go_ret
      exact ⟨rfl, rfl⟩
    · have d2 : decide ((e : Int) = 0) = false := decide_eq_false (by omega)
      have d3 : ((e : Int) == 0) = false := beq_eq_false_iff_ne.2 (by omega)
      have d5 : (e == 0) = false := beq_eq_false_iff_ne.2 h2
      have d6 : decide (e = 0) = false := decide_eq_false h2
      have d4 : decide ((1099511627776 : Int) < (e : Int)) = true := decide_eq_true (by omega)
      clear hb h1 h2
      go_enter Try.func11, Try.ntmps11
      go_wp2_with fail
      go_ret
      exact ⟨rfl, rfl⟩
theorem dset_there (h : TmD w B g clk A n c l) {k : Nat} {a : Alarm} (hk : l[k]? = some a) (e : Nat) (h1 : 1 ≤ e) (h2 : e ≤ 1099511627776) : Calls Try.prog 11 #[.pointer (some ⟨g, 0, none⟩), .int .i64 (a.name : Int), .int .u64 (e : Int)] w fun r w' => r = .returned (.int .i64 9) ∧ w' = w := by
  have CA := Lib.hid (dat_in h hk)
  have d1 : decide ((a.name : Int) < 0) = false := decide_eq_false (by omega)
  have d2 : decide ((e : Int) = 0) = false := decide_eq_false (by omega)
  have d3 : ((e : Int) == 0) = false := beq_eq_false_iff_ne.2 (by omega)
  have d5 : (e == 0) = false := beq_eq_false_iff_ne.2 (by omega)
  have d6 : decide (e = 0) = false := decide_eq_false (by omega)
  have d4 : decide ((1099511627776 : Int) < (e : Int)) = false := decide_eq_false (by omega)
  have d7 : decide ((0 : Int) ≤ (k : Int)) = true := decide_eq_true (by omega)
  clear h1 h2 hk h
  go_enter Try.func11, Try.ntmps11
  go_wp2_with fail
  refine CA.out.mono ?_
  rintro e w3 ⟨rfl, rfl⟩
  go_wp2_with fail
  go_ret
  exact ⟨rfl, rfl⟩
end
end Go.Proofs.Ytjjoieahodfikaa
/- Slices of structs of one's own: the cells of a beginning, of an end. -/
namespace Go.Proofs.Ytjjoieahodfikaa
open Go.RowKit
set_option linter.unusedVariables false
set_option linter.unusedSimpArgs false
section
variable {α : Type} {vals : α → List Value} {k : Nat} {w : World} {base n c : Nat} {A : Option Addr} {ws : List α}
theorem SAt.headcells (L : Laid vals k) (h : SAt vals k w base A n c ws) {s : Nat} (hs : s ≤ n) : (∀ ad, A = some ad → ∀ j u, ((ws.take s).flatMap vals)[j]? = some u → w.cell? (ad.add j) = some u) ∧ (A = none → s = 0) := by
  constructor
  · intro ad e j u hu
    subst e
    obtain ⟨g, off, hA⟩ : ∃ g off, ad = ⟨g, off, none⟩ := by
      rcases h.lies with ⟨e, _⟩ | ⟨g, off, e, _⟩
      · cases e
      · injection e with e; exact ⟨g, off, e⟩
    subst hA
    rw [Addr.add_lit]
    have e : ws.flatMap vals = (ws.take s).flatMap vals ++ (ws.drop s).flatMap vals := by rw [← List.flatMap_append, List.take_append_drop]
    have := h.tail L 0 j u (by rw [List.drop_zero, e, List.getElem?_append_left (List.getElem?_eq_some_iff.1 hu).1]; exact hu)
    simpa using this
  · intro e
    have := h.cap
    rcases h.lies with ⟨_, e2⟩ | ⟨g, off, e2, _⟩
    · omega
    · rw [e2] at e; cases e
theorem SAt.tailcells (L : Laid vals k) (h : SAt vals k w base A n c ws) {s : Nat} (hs : s ≤ n) : (∀ ad, dropK k A c s = some ad → ∀ j u, ((ws.drop s).flatMap vals)[j]? = some u → w.cell? (ad.add j) = some u) ∧ (dropK k A c s = none → n - s = 0) := by
  have hl := h.length
  have hc := h.cap
  constructor
  · intro ad e j u hu
    by_cases hcs : c = s
    · rw [List.drop_of_length_le (by omega)] at hu; simp at hu
    · cases A with
      | none => rw [dropK, if_neg hcs] at e; cases e
      | some a =>
        obtain ⟨g, off, hA⟩ : ∃ g off, a = ⟨g, off, none⟩ := by
          rcases h.lies with ⟨e, _⟩ | ⟨g, off, e, _⟩
          · cases e
          · injection e with e; exact ⟨g, off, e⟩
        subst hA
        rw [dropK_some k g off c s (by omega)] at e
        injection e with e
        subst e
        rw [Addr.add_lit]
        exact h.tail L s j u hu
  · intro e
    cases A with
    | none =>
      rcases h.lies with ⟨_, e2⟩ | ⟨g, off, e2, _⟩
      · omega
      · cases e2
    | some a => unfold dropK at e; split at e <;> cases e
end
end Go.Proofs.Ytjjoieahodfikaa
/- The landed timers: alarms in a map of one's own; how timers lie. -/
namespace Go.Proofs.Ytjjoieahodfikaa
open Go.RowKit Go.Maps Tmr
set_option linter.unusedVariables false
set_option linter.unusedSimpArgs false
/-- How an alarm reads: two numbers. -/
def almE : Value → Option (DataW Unit × List MemPlace)
  | .agg cs => match cs.toList with
    | [.int .u64 a, .int .u64 b] => some (.agg [.lit (.int .u64 a), .lit (.int .u64 b)], [])
    | _ => none
  | _ => none
def almD (e d : Int) : DataW Unit := .agg [.lit (.int .u64 e), .lit (.int .u64 d)]
def almC (e d : Nat) : Value := .agg #[.int .u64 (e : Int), .int .u64 (d : Int)]
theorem almE_mk (e d : Int) : almE (.agg #[.int .u64 e, .int .u64 d]) = some (almD e d, []) := rfl
theorem almE_inv {v : Value} {y : DataW Unit × List MemPlace} (h : almE v = some y) : ∃ e d, v = .agg #[.int .u64 e, .int .u64 d] ∧ y = (almD e d, []) := by
  unfold almE at h
  split at h
  · rename_i cs
    split at h
    · rename_i a b hcs
      have : cs = #[.int .u64 a, .int .u64 b] := by rw [← Array.toArray_toList (xs := cs), hcs]
      subst this
      injection h with h
      exact ⟨a, b, rfl, h.symm⟩
    · cases h
  · cases h
theorem almD_inj {e d e' d' : Int} (h : almD e d = almD e' d') : e = e' ∧ d = d' := by
  unfold almD at h
  injection h with h
  injection h with h1 h2
  injection h2 with h2 _
  injection h1 with h1; injection h1 with _ h1
  injection h2 with h2; injection h2 with _ h2
  exact ⟨h1, h2⟩
theorem lit_in {a b : Int} (h : Lit.int .i64 a = Lit.int .i64 b) : a = b := by injection h
theorem lit_nat {a b : Nat} (h : Lit.int .i64 (a : Int) = Lit.int .i64 (b : Int)) : a = b := Int.ofNat.inj (lit_in h)
theorem keyedI : Keyed Try.prog 3 := int_keyed Try.underlying3
theorem i64_lit {z : Int} (h : -9223372036854775808 ≤ z) (h2 : z ≤ 9223372036854775807) : (Lit.int .i64 z).wf = true := by
  simp [Lit.wf, IntKind.min, IntKind.max, IntKind.signed, IntKind.bits]; omega
theorem i64_back {z : Int} (h : (Lit.int .i64 z).wf = true) : -9223372036854775808 ≤ z ∧ z ≤ 9223372036854775807 := by
  simpa [Lit.wf, IntKind.min, IntKind.max, IntKind.signed, IntKind.bits] using h
theorem keyI {z : Int} (h : (Lit.int .i64 z).wf = true) : keyOf Try.prog 3 (.int .i64 z) = some (.int .i64 z) := keyOf_int_mk Try.underlying3 h
theorem zeroA (w : World) : (zeroValue 64).run Try.prog w = .ok (.agg #[.int .u64 0, .int .u64 0]) w := by kernel_rfl
theorem undM : Try.prog.underlying 60 = some (.map 3 64) := Try.underlying60
/-- The alarms of l, in the map of block B. -/
def MapA (w : World) (B : Nat) (l : List Alarm) : Prop :=
  ∃ D : DataW Unit, w.ownsMap Try.prog 3 almE B l.length D ∧ size D = l.length ∧ (∀ a ∈ l, ∀ z, D.atKey (.int .i64 (a.name : Int)) z = almD a.every a.due) ∧ ∀ x : Int, (∀ a ∈ l, (a.name : Int) ≠ x) → has D (.int .i64 x) = false
theorem own_exact {H : Type} {P : Program} {w : World} {k : TypeId} {R : Value → Option (DataW H × List MemPlace)} {b n : Nat} {D : DataW H} (h : w.ownsMap P k R b n D) : w.ownsMap P k R b (size D) D := by
  obtain ⟨es, clock, hb, F, hs, rfl⟩ := h
  refine ⟨es, clock, hb, F, ?_, rfl⟩
  rw [size_eq, length_sorted]; simp
theorem setL_length (a : Alarm) : ∀ l : List Alarm, (setL a l).length = l.length + 1
  | [] => rfl
  | b :: r => by
    unfold setL
    split
    · rw [List.length_cons, setL_length a r, List.length_cons]
    · rfl
theorem stopL_length {l : List Alarm} (h : Rising l) {a : Alarm} (ha : a ∈ l) : (stopL a.name l).length + 1 = l.length := by
  obtain ⟨k, hk, e⟩ := List.getElem_of_mem ha
  rw [stopL_at h (by rw [List.getElem?_eq_getElem hk, e]), List.length_append, List.length_take, List.length_drop]; omega
/-- One of them is another one. -/
def putL (a : Alarm) (l : List Alarm) : List Alarm := l.map fun x => if x.name = a.name then a else x
theorem mem_putL {a b : Alarm} {l : List Alarm} (h : b ∈ putL a l) : (b = a ∧ ∃ x ∈ l, x.name = a.name) ∨ (b ∈ l ∧ b.name ≠ a.name) := by
  obtain ⟨x, hx, e⟩ := List.mem_map.1 h
  split at e
  · rename_i hn; exact Or.inl ⟨e.symm, x, hx, hn⟩
  · rename_i hn; subst e; exact Or.inr ⟨hx, hn⟩
theorem putL_anew {c : Nat} {a : Alarm} {l : List Alarm} (h : Rising l) (ha : a ∈ l) : putL (anew c a) l = againL c a.name l := by
  unfold putL againL
  refine List.map_congr_left fun x hx => ?_
  show (if x.name = a.name then anew c a else x) = _
  by_cases e : x.name = a.name
  · rw [if_pos e, if_pos e, rising_inj h hx ha e]
  · rw [if_neg e, if_neg e]
namespace MapA
variable {w w' : World} {B : Nat} {l : List Alarm}
theorem made (w : World) : MapA (w.alloc (.map #[] 0)) w.heap.size [] :=
  ⟨.map [], World.ownsMap_made _ _ _ _, rfl, fun a h => (nomatch h), fun x _ => rfl⟩
theorem block (h : MapA w B l) (e : w'.heap[B]? = w.heap[B]?) : MapA w' B l := by
  obtain ⟨D, ⟨es, clock, hb, r⟩, h2⟩ := h
  exact ⟨D, ⟨es, clock, e.trans hb, r⟩, h2⟩
theorem lt (h : MapA w B l) : B < w.heap.size := by obtain ⟨D, h1, _⟩ := h; exact h1.lt
theorem turned {F : Nat → Prop} (h : MapA w B l) (t : Turned F w w') (hn : ¬ F B) : MapA w' B l := h.block (t.block B h.lt hn)
theorem look_in (h : MapA w B l) {a : Alarm} (ha : a ∈ l) (hn : a.name < 9223372036854775808) :
    (Instr.lookup 60 (.map (some B)) (.int .i64 (a.name : Int)) true).run Try.prog w = .ok (.tuple #[almC a.every a.due, .bool true]) w ∧ (Instr.lookup 60 (.map (some B)) (.int .i64 (a.name : Int)) false).run Try.prog w = .ok (almC a.every a.due) w := by
  obtain ⟨D, h1, h2, h3, h4⟩ := h
  have wf := i64_lit (z := (a.name : Int)) (by omega) (by omega)
  constructor
  · obtain ⟨v, ps, hr, hv⟩ := h1.look_ok keyedI undM (zeroA w) (almE_mk 0 0) (keyI wf)
    rw [has_true_of_atKey (fun z => h3 a ha z)] at hr
    rw [h3 a ha] at hv
    obtain ⟨e, d, rfl, e2⟩ := almE_inv hv
    obtain ⟨rfl, rfl⟩ := almD_inj (Prod.mk.inj e2).1
    exact hr
  · obtain ⟨v, ps, hr, hv⟩ := h1.lookup keyedI undM (zeroA w) (almE_mk 0 0) (keyI wf)
    rw [h3 a ha] at hv
    obtain ⟨e, d, rfl, e2⟩ := almE_inv hv
    obtain ⟨rfl, rfl⟩ := almD_inj (Prod.mk.inj e2).1
    exact hr
theorem look_out (h : MapA w B l) {x : Int} (hx : ∀ a ∈ l, (a.name : Int) ≠ x) (wf : (Lit.int .i64 x).wf = true) :
    (Instr.lookup 60 (.map (some B)) (.int .i64 x) true).run Try.prog w = .ok (.tuple #[almC 0 0, .bool false]) w ∧ (Instr.lookup 60 (.map (some B)) (.int .i64 x) false).run Try.prog w = .ok (almC 0 0) w := by
  obtain ⟨D, h1, h2, h3, h4⟩ := h
  have hf := h4 x hx
  constructor
  · obtain ⟨v, ps, hr, hv⟩ := h1.look_ok keyedI undM (zeroA w) (almE_mk 0 0) (keyI wf)
    rw [hf] at hr
    rw [atKey_of_not_has hf] at hv
    obtain ⟨e, d, rfl, e2⟩ := almE_inv hv
    obtain ⟨rfl, rfl⟩ := almD_inj (Prod.mk.inj e2).1
    exact hr
  · obtain ⟨v, ps, hr, hv⟩ := h1.lookup keyedI undM (zeroA w) (almE_mk 0 0) (keyI wf)
    rw [atKey_of_not_has hf] at hv
    obtain ⟨e, d, rfl, e2⟩ := almE_inv hv
    obtain ⟨rfl, rfl⟩ := almD_inj (Prod.mk.inj e2).1
    exact hr
theorem len (h : MapA w B l) (ty : TypeId) : (Builtin.len_ #[60] ty #[.map (some B)]).run Try.prog w = .ok (.int .i64 (l.length : Int)) w := by
  obtain ⟨D, h1, h2, _⟩ := h
  rw [h1.len undM ty, h2]
theorem put_new (h : MapA w B l) (a : Alarm) (hn : ¬ isIn a.name l) (hm : a.name < 9223372036854775808) (hf : l.length ≤ 1000000) :
    ∃ w', (Instr.mapUpdate 60 (.map (some B)) (.int .i64 (a.name : Int)) (almC a.every a.due)).run Try.prog w = .ok () w' ∧ MapA w' B (setL a l) ∧ w.grownBy w' (some B) := by
  obtain ⟨D, h1, h2, h3, h4⟩ := h
  have wf := i64_lit (z := (a.name : Int)) (by omega) (by omega)
  obtain ⟨w', r1, r2, r3⟩ := h1.update keyedI undM (by unfold maxLen; omega) (keyI wf) (almE_mk (a.every : Int) (a.due : Int))
  have hno : has D (.int .i64 (a.name : Int)) = false := h4 _ fun b hb e => hn ⟨b, hb, by omega⟩
  have hs : size (D.put (.int .i64 (a.name : Int)) (almD a.every a.due)) = (setL a l).length := by
    rw [size_put (h1.tidy keyedI), hno, setL_length]; simp [h2]
  refine ⟨w', r1, ⟨_, hs ▸ own_exact r2, hs, fun b hb z => ?_, fun x hx => ?_⟩, r3⟩
  · rcases mem_setL.1 hb with rfl | hb
    · exact atKey_put_same h1.isMap (keyedI.key (keyI wf)) _ _
    · rw [atKey_put_other (fun e => hn ⟨b, hb, lit_nat e⟩)]
      exact h3 b hb z
  · rw [has_put_other (fun e => hx a (mem_setL.2 (Or.inl rfl)) (lit_in e).symm)]
    exact h4 x fun b hb => hx b (mem_setL.2 (Or.inr hb))
theorem put_old (h : MapA w B l) (a : Alarm) (hn : isIn a.name l) (hm : a.name < 9223372036854775808) (hf : l.length ≤ 1000000) :
    ∃ w', (Instr.mapUpdate 60 (.map (some B)) (.int .i64 (a.name : Int)) (almC a.every a.due)).run Try.prog w = .ok () w' ∧ MapA w' B (putL a l) ∧ w.grownBy w' (some B) := by
  obtain ⟨D, h1, h2, h3, h4⟩ := h
  have wf := i64_lit (z := (a.name : Int)) (by omega) (by omega)
  obtain ⟨w', r1, r2, r3⟩ := h1.update keyedI undM (by unfold maxLen; omega) (keyI wf) (almE_mk (a.every : Int) (a.due : Int))
  obtain ⟨y, hy, hya⟩ := hn
  have hyes : has D (.int .i64 (a.name : Int)) = true := has_true_of_atKey (y := almD y.every y.due) (fun z => by have := h3 y hy z; rwa [hya] at this)
  have hs : size (D.put (.int .i64 (a.name : Int)) (almD a.every a.due)) = (putL a l).length := by
    rw [size_put (h1.tidy keyedI), hyes]; simp [h2, putL]
  refine ⟨w', r1, ⟨_, hs ▸ own_exact r2, hs, fun b hb z => ?_, fun x hx => ?_⟩, r3⟩
  · rcases mem_putL hb with ⟨rfl, _⟩ | ⟨hb, hne⟩
    · exact atKey_put_same h1.isMap (keyedI.key (keyI wf)) _ _
    · rw [atKey_put_other (fun e => hne (lit_nat e))]
      exact h3 b hb z
  · have hax : (a.name : Int) ≠ x := hx a (List.mem_map.2 ⟨y, hy, by rw [if_pos hya]⟩)
    rw [has_put_other (fun e => hax (lit_in e).symm)]
    refine h4 x fun b hb e => ?_
    by_cases hba : b.name = a.name
    · exact hax (by omega)
    · exact hx b (List.mem_map.2 ⟨b, hb, by rw [if_neg hba]⟩) e
theorem drop (h : MapA w B l) (hl : Rising l) {a : Alarm} (ha : a ∈ l) (hm : a.name < 9223372036854775808) (ty : TypeId) :
    ∃ w', (Builtin.delete_ #[60, 3] ty #[.map (some B), .int .i64 (a.name : Int)]).run Try.prog w = .ok (.tuple #[]) w' ∧ MapA w' B (stopL a.name l) ∧ w.grownBy w' (some B) := by
  obtain ⟨D, h1, h2, h3, h4⟩ := h
  have wf := i64_lit (z := (a.name : Int)) (by omega) (by omega)
  obtain ⟨w', r1, r2, r3⟩ := h1.drop keyedI undM (keyI wf) ty
  have hyes : has D (.int .i64 (a.name : Int)) = true := has_true_of_atKey (fun z => h3 a ha z)
  have hs : size (D.del (.int .i64 (a.name : Int))) = (stopL a.name l).length := by
    have e1 := size_del (k := .int .i64 (a.name : Int)) (h1.tidy keyedI)
    rw [hyes] at e1
    have e2 := stopL_length hl ha
    simp at e1; omega
  refine ⟨w', r1, ⟨_, hs ▸ own_exact r2, hs, fun b hb z => ?_, fun x hx => ?_⟩, r3.grown⟩
  · have hb2 := List.mem_filter.1 hb
    have hne : b.name ≠ a.name := by simpa using hb2.2
    rw [atKey_del_other (fun e => hne (lit_nat e))]
    exact h3 b hb2.1 z
  · by_cases e : (a.name : Int) = x
    · rw [← e]; exact has_del_same
    · rw [has_del_other (fun e2 => e (lit_in e2).symm)]
      refine h4 x fun b hb e2 => ?_
      by_cases hba : b.name = a.name
      · exact e (by omega)
      · exact hx b (List.mem_filter.2 ⟨hb, by simpa using hba⟩) e2
end MapA
/-- The landed timers in block g, their map in block mb. -/
structure TmL (w : World) (B g mb clk : Nat) (l : List Alarm) : Prop where
  block : w.heap[g]? = some (.cells #[.int .u64 (clk : Int), .map (some mb)] 62 (0, 0))
  map : MapA w mb l
  ap : mb ≠ g
  low : B ≤ g ∧ B ≤ mb
  rising : Rising l
  clock : clk ≤ maxT
  fine : ∀ a ∈ l, FineA a
  few : l.length ≤ 100000
namespace TmL
variable {w w' : World} {B g mb clk : Nat} {l : List Alarm}
theorem lt (h : TmL w B g mb clk l) : g < w.heap.size := (Array.getElem?_eq_some_iff.1 h.block).1
theorem mlt (h : TmL w B g mb clk l) : mb < w.heap.size := h.map.lt
theorem c0 (h : TmL w B g mb clk l) : w.cell? ⟨g, 0, none⟩ = some (.int .u64 (clk : Int)) := by unfold World.cell?; rw [h.block]; rfl
theorem c1 (h : TmL w B g mb clk l) : w.cell? ⟨g, 1, none⟩ = some (.map (some mb)) := by unfold World.cell?; rw [h.block]; rfl
theorem f0 (h : TmL w B g mb clk l) : w.frozen? ⟨g, 0, none⟩ = false := by simp [World.frozen?, h.block]
theorem f1 (h : TmL w B g mb clk l) : w.frozen? ⟨g, 1, none⟩ = false := by simp [World.frozen?, h.block]
theorem turned {G : Nat → Prop} (h : TmL w B g mb clk l) (t : Turned G w w') (h1 : ¬ G g) (h2 : ¬ G mb) : TmL w' B g mb clk l :=
  ⟨(t.block g h.lt h1).trans h.block, h.map.turned t h2, h.ap, h.low, h.rising, h.clock, h.fine, h.few⟩
theorem keep (h : TmL w B g mb clk l) (t : Keep w w') : TmL w' B g mb clk l := h.turned (Turned.of_keep (F := fun _ => False) t) (fun e => e) (fun e => e)
end TmL
/-- What may turn of timers. -/
def FpT (g mb : Nat) (b : Nat) : Prop := b = g ∨ b = mb
end Go.Proofs.Ytjjoieahodfikaa
/- The landed timers: New, isMade, lay, Set, Stop, Again, Now. -/
namespace Go.Proofs.Ytjjoieahodfikaa
open Go.RowKit Go.Maps Tmr
set_option linter.unusedVariables false
set_option linter.unusedSimpArgs false
set_option maxRecDepth 100000
theorem run_leastT (a m : Nat) (h : min a 1099511627776 = m) (w : World) : (Builtin.min_ #[27, 27] 27 #[.int .u64 (a : Int), .int .u64 1099511627776]).run Try.prog w = .ok (.int .u64 (m : Int)) w := by
  rw [run_min_int2]; congr 2; split <;> omega
theorem map_some (mb : Nat) (w : World) : (binOp BinOp.neq 60 (.map (some mb)) (.map none)).run Try.prog w = .ok (.bool true) w := by kernel_rfl
section
variable {w : World} {B g mb clk : Nat} {l : List Alarm}
theorem tmade (h : TmL w B g mb clk l) : Calls Try.prog 23 #[.pointer (some ⟨g, 0, none⟩)] w fun r w' => r = .returned (.bool true) ∧ w' = w := by
  have c1 := h.c1
  have hb := map_some mb w
  clear h
  go_enter Try.func23, Try.ntmps23
  go_wp2_with fail
  go_ret
  exact ⟨rfl, rfl⟩
theorem tnow (h : TmL w B g mb clk l) : Calls Try.prog 21 #[.pointer (some ⟨g, 0, none⟩)] w fun r w' => r = .returned (.int .u64 (clk : Int)) ∧ w' = w := by
  have c0 := h.c0
  have CM := Lib.hid (tmade h)
  clear h
  go_enter Try.func21, Try.ntmps21
  go_wp2_with fail
  refine CM.out.mono ?_
  rintro e w1 ⟨rfl, rfl⟩
  go_wp2_with fail
  go_ret
  exact ⟨rfl, rfl⟩
/-- lay: whatever the map's store leaves. -/
theorem tlay (h : TmL w B g mb clk l) (a : Alarm) (he : a.every ≤ maxT) (hd : a.due = later clk a.every) (l' : List Alarm) (h1 : Rising l') (h2 : ∀ b ∈ l', FineA b) (h3 : l'.length ≤ 100000)
    (hr : ∃ w', (Instr.mapUpdate 60 (.map (some mb)) (.int .i64 (a.name : Int)) (almC a.every a.due)).run Try.prog w.drew = .ok () w' ∧ MapA w' mb l' ∧ w.drew.grownBy w' (some mb)) :
    Calls Try.prog 24 #[.pointer (some ⟨g, 0, none⟩), .int .i64 (a.name : Int), .int .u64 (a.every : Int)] w fun r w' => r = .returned (.tuple #[]) ∧ TmL w' B g mb clk l' ∧ Turned (fun b => b = mb) w w' := by
  obtain ⟨w2, hrun, hm, hg⟩ := hr
  have hT : Turned (fun b => b = mb) w w2 := ((Turned.of_keep (F := fun b => b = mb) (Keep.refl w).drew).trans (Turned.of_grown (F := fun b => b = mb) hg fun i e => (Option.some.inj e).symm) fun i e => Or.inl e)
  have hD : TmL w2 B g mb clk l' := ⟨(hT.block g h.lt (fun e => h.ap e.symm)).trans h.block, hm, h.ap, h.low, h1, h.clock, h2, h3⟩
  have HT := Lib.hid hT
  have HD := Lib.hid hD
  have hc := h.clock
  unfold maxT at hc he
  obtain ⟨s, hs⟩ : ∃ s, clk + a.every = s := ⟨_, rfl⟩
  have e1 : IntKind.u64.wrap ((clk : Int) + (a.every : Int)) = (s : Int) := by rw [IntWalk.u64_in _ (by omega)]; omega
  have hmn := run_leastT s a.due (by rw [hd]; unfold later maxT; rw [hs]) w.drew
  have c0 : w.drew.cell? ⟨g, 0, none⟩ = some (.int .u64 (clk : Int)) := h.c0
  have c1 : w.drew.cell? ⟨g, 1, none⟩ = some (.map (some mb)) := h.c1
  unfold almC at hrun
  clear hT hD hc he hd hm hg hs h h1 h2 h3
  go_enter Try.func24, Try.ntmps24
  refine wp_region_still_tail (w := w) 14 (by kernel_rfl) (by kernel_rfl) ?_
  simp only [List.take_succ_cons, List.take_zero, List.drop_succ_cons, List.drop_zero]
  change wpStill _ _ (World.drew w) _ _ _
  iterate 14 still_step
  refine wpStill_nil ?_
  change wpList _ _ _ _ _ (World.drew w)
  go_wp2_with fail
  go_end0
  exact ⟨rfl, HD.out, HT.out⟩
end
end Go.Proofs.Ytjjoieahodfikaa
