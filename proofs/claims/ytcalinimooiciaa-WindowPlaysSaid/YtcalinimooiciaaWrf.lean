/- A range over a method value, whose body goes on to its end: what the walk owes. -/
import Derived.Test.YtcalinimooiciaaWmem
import Derived.RangeFuncNested
import Derived.RangeFuncBound
import Derived.RangeFuncCalls
import Derived.RangeFuncLeaves
import Derived.Shelf.Abstract
import Derived.Shelf.RegionOpen
import Derived.OwnWalkIn
import Derived.TacticsInMore
import Derived.LoopNIn
import Derived.LoopIn
namespace Go.Proofs.Ytcalinimooiciaa
open Go.RowKit
set_option linter.unusedVariables false
section
variable {F : Fence} {n : Nat} {P : Program}
/-- An iterator that hands yield N values, one behind the other; between two rounds it reads what Q says. -/
def Hands (F : Fence) (n : Nat) (P : Program) (gf : FuncId) (r : Value) (enc : Nat → Value) (Q : World → Prop) (N : Nat) : Prop :=
  ∀ (l : Nat) (J : Nat → World → Prop) (W : World), (∀ i W1, J i W1 → Q W1) →
    (∀ i W1, J i W1 → i < N → YieldAt F (n - 1) P l #[enc i] W1 fun e W' => e = .returned (.bool true) ∧ J (i + 1) W') → J 0 W →
    CallsIn F n P gf #[r, .func (.yield l) #[] #[]] W fun e W' => (∃ v, e = .returned v) ∧ J N W'
/-- The statement, where the function is a method value and the body always goes on. -/
theorem wpIn_range_method {g : Operand} {p : Tmp} {assign body : Code} {Q : Exit → Act → World → Prop} {a : Act} {w : World}
    (hro : F.round = none) (hn : 1 ≤ n) {gf : FuncId} {r : Value} (hg : a.eval g = .func (.func gf) #[r] #[]) (hF : F.fn gf) (eg : ∀ args w, (callFunc gf args).run P w = .ok (.enter gf args) w)
    {enc : Nat → Value} {R : World → Prop} {N : Nat} (hseq : Hands F (n - 1) P gf r enc R N)
    (I : Nat → World → Prop) (hR : ∀ i W, I i W → R W) (hI : OwnFrom w.heap.size I) (h0 : I 0 w) (b : Nat → Act)
    (hassign : ∀ (l i : Nat) (W : World) (K : Act → World → Prop), K (b i) W →
      assign.wpIn (F.inRound l) (n - 1 - 1) P (Exit.then K (fun _ _ _ => False)) { tmps := a.tmps.setIfInBounds p (enc i), defers := [] } W)
    (hbody : ∀ (l i : Nat) (W : World), I i W → i < N → w.heap.size ≤ W.heap.size → body.wpIn (F.inRound l) (n - 1 - 1) P (fun e _ W' => e = .normal ∧ KeepsFrom w.heap.size W W' ∧ I (i + 1) W') (b i) W)
    (hdone : ∀ (D : Nat) (W : World), w.heap.size ≤ D → I N W → W.heap[D]? = some (.deferred (some [])) → Q .normal { a with defers := { target := .collected D, args := #[] } :: a.defers } W) :
    (Code.rangeFunc g #[p] assign body).wpIn F n P Q a w := by
  refine wpIn_rangeFunc fun fn hfn => ?_
  rw [hro]
  -- the loop's record, ready, busy or done
  obtain ⟨rec, hrec⟩ : ∃ rec : LoopState → Loop, rec = fun st => { state := st, pending := none, fn, tmps := a.tmps, params := #[p], assign, body, defers := w.heap.size } := ⟨_, rfl⟩
  have hrec' : ∀ st, rec st = { state := st, pending := none, fn, tmps := a.tmps, params := #[p], assign, body, defers := w.heap.size } := fun st => by rw [hrec]
  -- what holds between two rounds
  obtain ⟨J, hJ⟩ : ∃ J : Nat → World → Prop, J = fun i W => I i W ∧ W.heap[w.heap.size + 1]? = some (.loop (rec .ready)) ∧ W.heap[w.heap.size]? = some (.deferred (some [])) := ⟨_, rfl⟩
  -- the world behind the two blocks that the statement lays
  obtain ⟨V, hV⟩ : ∃ V, (w.alloc (.deferred (some []))).alloc (.loop (rec .ready)) = V := ⟨_, rfl⟩
  refine ⟨w.heap.size + 1, [{ target := .collected w.heap.size, args := #[] }], V, { target := .fn (.func gf) #[], args := #[r, .func (.yield (w.heap.size + 1)) #[] #[]] }, V, gf, #[r, .func (.yield (w.heap.size + 1)) #[] #[]], V, ?_, ?_, ?_, ?_, fun _ => hn, ?_⟩
  · rw [← hV, hrec']
    exact run_enterLoop_outer _ _ _ _ _
  · simp only [resolve, hg]
    simp [go_sem]
  · intro f' hf'
    simp [Target.leads] at hf'
    subst hf'
    exact hF
  · simp [invoke, go_sem, eg]
  · have hz : J 0 V := by
      rw [hJ, ← hV]
      refine ⟨hI.alloc _ (hI.alloc _ h0), ?_, ?_⟩
      · have := World.alloc_heap_new (w.alloc (.deferred (some []))) (.loop (rec .ready))
        rw [World.size_alloc] at this
        exact this
      · exact (Below.heap_alloc _ _ _ (by simp)).trans (World.alloc_heap_new w _)
    refine (hseq (w.heap.size + 1) J _ (fun i W h => hR i W (by rw [hJ] at h; exact h.1)) ?_ hz).mono ?_
    · intro i W h hi
      rw [hJ] at h
      obtain ⟨h1, h2, h3⟩ := h
      have hlt := (Array.getElem?_eq_some_iff.1 h2).1
      have hy := run_yield (P := P) (args := #[enc i]) h2 (by rw [hrec']; rfl)
      rw [hrec'] at hy
      refine ⟨fn, a.tmps.setIfInBounds p (enc i), assign, body, by simpa using hy, roundIn_of_wpIn hfn (hassign _ i W _ ?_)⟩
      refine ⟨_, run_beginRound h2 (by rw [hrec']), ?_⟩
      have b1 : (W.putObj (w.heap.size + 1) (.loop { rec .ready with state := .busy })).heap[w.heap.size + 1]? = some (.loop (rec .busy)) := by
        rw [World.putObj_heap_same hlt, hrec', hrec']
      have b2 : (W.putObj (w.heap.size + 1) (.loop { rec .ready with state := .busy })).heap[w.heap.size]? = some (.deferred (some [])) := (World.putObj_heap_other (by omega)).trans h3
      refine wpIn_mono (hbody _ i _ (hI.putObj _ h1 (by omega) h2 rfl) hi (by simp; omega)) ?_
      rintro e a' W' ⟨rfl, k, hi'⟩
      have c1 := k.same _ _ (by omega) b1 rfl
      have c2 := k.same _ _ (Nat.le_refl _) b2 rfl
      refine ⟨_, _, run_endRound none c1, rfl, ?_⟩
      rw [hJ]
      refine ⟨hI.putObj _ hi' (by omega) c1 rfl, ?_, (World.putObj_heap_other (by omega)).trans c2⟩
      rw [World.putObj_heap_same (Array.getElem?_eq_some_iff.1 c1).1, hrec', hrec']; rfl
    · rintro e W ⟨⟨v, rfl⟩, h⟩
      rw [hJ] at h
      obtain ⟨h1, h2, h3⟩ := h
      have he := run_endLoop (P := P) h2 (by rw [hrec']; simp)
      rw [show (rec .ready).pending = none by rw [hrec']] at he
      exact ⟨none, _, he, hdone _ _ (Nat.le_refl _) (hI.putObj _ h1 (by omega) h2 rfl) ((World.putObj_heap_other (by omega)).trans h3)⟩
end
end Go.Proofs.Ytcalinimooiciaa
