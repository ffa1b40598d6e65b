/- A slice of one's own, whatever it holds: written to. -/
import Derived.Test.YtgelalbmhllccaaGreatQab
import Derived.Test.YtgelalbmhllccaaGreatQah
import Derived.RangeFuncNested
import Derived.RangeFuncBound
import Derived.RangeFuncCalls
import Derived.RangeFuncLeaves
import Derived.Shelf.Abstract
import Derived.Shelf.RegionOpen
import Derived.OwnWalkIn
import Derived.TacticsInMore
import Derived.LoopNIn
import Derived.LoopIn
namespace Go.Proofs.YtgelalbmhllccaaGreat
open Go.RowKit
/-- A slice of one's own, whatever it holds. -/
def Mine (w wr : World) (A : Option Addr) (n c : Nat) : Prop := ∃ xs, Own wr w.heap.size 5 A n c xs
theorem Mine.at_ {w wr : World} {A : Option Addr} {n c k : Nat} (h : Mine w wr A n c) (hk : k < n) :
    ∃ g v : Nat, A = some ⟨g, 0, none⟩ ∧ w.heap.size ≤ g ∧ v < 256 ∧ wr.cell? ⟨g, k, none⟩ = some (.int .u8 (v : Int)) ∧ wr.frozen? ⟨g, k, none⟩ = false := by
  obtain ⟨xs, h⟩ := h
  obtain ⟨g, rfl, hg, _⟩ := h.block (by omega)
  exact ⟨g, xs.getD k 0, rfl, hg, h.2.getD k, h.cell hk, h.frozen k⟩
theorem Mine.set {w wr : World} {A : Option Addr} {n c : Nat} (h : Mine w wr A n c) (g k v : Nat) (hv : v < 256) : Mine w (wr.setCell ⟨g, k, none⟩ (.int .u8 (v : Int))) A n c := by
  obtain ⟨xs, h⟩ := h
  by_cases e : (Value.slice A n c).ownBlock = some g
  · rcases h.1.2 with ⟨hv', _⟩ | ⟨g', cap, cur, hv', _⟩
    · rw [hv'] at e; cases e
    · rw [hv'] at e
      obtain rfl : g' = g := by simpa [Value.ownBlock] using e
      injection hv' with e1 e2 e3
      subst e1
      exact ⟨_, h.stored (i := k) hv⟩
  · exact ⟨xs, h.far e _⟩
theorem Mine.keep {w wr w' : World} {A : Option Addr} {n c : Nat} (h : Mine w wr A n c) (k : Keep wr w') : Mine w w' A n c := by
  obtain ⟨xs, h⟩ := h; exact ⟨xs, h.keep k⟩
theorem Mine.of {w w1 w2 : World} {A : Option Addr} {n c : Nat} {xs : List Nat} (h : Own w2 w1.heap.size 5 A n c xs) (k : Keep w w1) : Mine w w2 A n c := ⟨xs, h.lower k.size⟩
end Go.Proofs.YtgelalbmhllccaaGreat
/- The landed window: how it lies, and its functions that make no list. -/
namespace Go.Proofs.YtgelalbmhllccaaGreat
open Go.RowKit
set_option linter.unusedVariables false
set_option linter.unusedSimpArgs false
/-- A window of width k and base b in block g. -/
structure WinR (w : World) (g k b : Nat) : Prop where
  block : w.heap[g]? = some (.cells #[.int .i64 (k : Int), .int .u64 (b : Int)] 136 (0, 0))
  low : 1 ≤ k
  high : k ≤ 16
  top : b ≤ topN
namespace WinR
variable {w w' : World} {g k b : Nat}
theorem lt (h : WinR w g k b) : g < w.heap.size := (Array.getElem?_eq_some_iff.1 h.block).1
theorem c0 (h : WinR w g k b) : w.cell? ⟨g, 0, none⟩ = some (.int .i64 (k : Int)) := by simp [World.cell?, h.block]
theorem c1 (h : WinR w g k b) : w.cell? ⟨g, 1, none⟩ = some (.int .u64 (b : Int)) := by simp [World.cell?, h.block]
theorem free (h : WinR w g k b) : w.frozen? ⟨g, 1, none⟩ = false := by simp [World.frozen?, h.block]
theorem turned {G : Nat → Prop} (h : WinR w g k b) (t : Turned G w w') (hn : ¬ G g) : WinR w' g k b := ⟨(t.block g h.lt hn).trans h.block, h.low, h.high, h.top⟩
theorem keep (h : WinR w g k b) (t : Keep w w') : WinR w' g k b := ⟨(t.block g h.lt).trans h.block, h.low, h.high, h.top⟩
theorem moved (h : WinR w g k b) {c : Nat} (hc : c ≤ topN) : WinR (w.setCell ⟨g, 1, none⟩ (.int .u64 (c : Int))) g k c :=
  ⟨by simp [World.setCell, Array.getElem?_modify, h.block], h.low, h.high, hc⟩
end WinR
section
variable {g k b : Nat} {w : World}
theorem made_any (h : WinR w g k b) : Calls Tryz.prog 87 #[.pointer (some ⟨g, 0, none⟩)] w fun e w' => e = .returned (.bool true) ∧ w' = w := by
  have c0 := h.c0
  have hk := h.low
  have d : decide (0 < k) = true := decide_eq_true (by omega)
  clear h hk
  go_enter Tryz.func87, Tryz.ntmps87
  go_wp2_with fail
  go_ret
  exact ⟨rfl, rfl⟩
theorem base_any (h : WinR w g k b) : Calls Tryz.prog 133 #[.pointer (some ⟨g, 0, none⟩)] w fun e w' => e = .returned (.int .u64 (b : Int)) ∧ w' = w := by
  have c1 := h.c1
  go_enter Tryz.func133, Tryz.ntmps133
  go_wp2_with fail
  refine (made_any h).mono ?_
  rintro e w1 ⟨rfl, rfl⟩
  go_wp2_with fail
  go_ret
  exact ⟨rfl, rfl⟩
theorem width_any (h : WinR w g k b) : Calls Tryz.prog 69 #[.pointer (some ⟨g, 0, none⟩)] w fun e w' => e = .returned (.int .i64 (k : Int)) ∧ w' = w := by
  have c0 := h.c0
  go_enter Tryz.func69, Tryz.ntmps69
  go_wp2_with fail
  refine (made_any h).mono ?_
  rintro e w1 ⟨rfl, rfl⟩
  go_wp2_with fail
  go_ret
  exact ⟨rfl, rfl⟩
theorem end_any (h : WinR w g k b) : Calls Tryz.prog 134 #[.pointer (some ⟨g, 0, none⟩)] w fun e w' => e = .returned (.int .u64 (endN b k : Int)) ∧ w' = w := by
  have hk := h.high
  have hb := h.top
  unfold topN at hb
  have e1 : IntKind.u64.wrap (k : Int) = (k : Int) := IntWalk.u64_in _ (by omega)
  have e2 : IntKind.u64.wrap ((b : Int) + (k : Int)) = ((b + k : Nat) : Int) := by rw [IntWalk.u64_in _ (by omega)]; omega
  go_enter Tryz.func134, Tryz.ntmps134
  go_wp2_with fail
  refine (base_any h).mono ?_
  rintro e w1 ⟨rfl, rfl⟩
  go_wp2_with fail
  refine (width_any h).mono ?_
  rintro e w1 ⟨rfl, rfl⟩
  go_wp2_with fail
  all_goals go_ret
  · rename_i h1
    exact ⟨by rw [show endN b k = topN by unfold endN topN; omega]; rfl, rfl⟩
  · rename_i h1
    exact ⟨by rw [show endN b k = b + k by unfold endN topN; omega]; rfl, rfl⟩
/-- In. -/
theorem in_any (n : Nat) (hn : n < 18446744073709551616) (h : WinR w g k b) : Calls Tryz.prog 89 #[.pointer (some ⟨g, 0, none⟩), .int .u64 (n : Int)] w fun e w' => e = .returned (.bool (winIn b k n)) ∧ w' = w := by
  by_cases h1 : b ≤ n
  · have d1 : decide ((b : Int) ≤ (n : Int)) = true := decide_eq_true (by omega)
    go_enter Tryz.func89, Tryz.ntmps89
    go_wp2_with fail
    refine (base_any h).mono ?_
    rintro e w1 ⟨rfl, rfl⟩
    go_wp2_with fail
    refine (end_any h).mono ?_
    rintro e w1 ⟨rfl, rfl⟩
    go_wp2_with fail
    go_ret
    exact ⟨by rw [winIn, decide_eq_true h1, Bool.true_and]; rfl, rfl⟩
  · have d1 : decide ((b : Int) ≤ (n : Int)) = false := decide_eq_false (by omega)
    go_enter Tryz.func89, Tryz.ntmps89
    go_wp2_with fail
    refine (base_any h).mono ?_
    rintro e w1 ⟨rfl, rfl⟩
    go_wp2_with fail
    go_ret
    exact ⟨by rw [winIn, decide_eq_false h1, Bool.false_and]; rfl, rfl⟩
/-- Slot. -/
def slotV (b k n : Nat) : Nat := if winIn b k n then n % k else 0
def slotE (b k n : Nat) : Int := if winIn b k n then 0 else 1
theorem slot_any (n : Nat) (hn : n < 18446744073709551616) (h : WinR w g k b) : Calls Tryz.prog 50 #[.pointer (some ⟨g, 0, none⟩), .int .u64 (n : Int)] w fun e w' => e = .returned (.tuple #[.int .i64 (slotV b k n : Int), .int .i64 (slotE b k n)]) ∧ w' = w := by
  have hk := h.high
  have hl := h.low
  have c0 := h.c0
  cases hi : winIn b k n with
  | true =>
    have hm : n % k < k := Nat.mod_lt _ (by omega)
    have e1 : IntKind.u64.wrap (k : Int) = (k : Int) := IntWalk.u64_in _ (by omega)
    have e2 : (n : Int).tmod (k : Int) = ((n % k : Nat) : Int) := by rw [Int.tmod_eq_emod_of_nonneg (by omega)]; rfl
    have e3 : IntKind.u64.wrap ((n % k : Nat) : Int) = ((n % k : Nat) : Int) := IntWalk.u64_in _ (by omega)
    have e4 : IntKind.i64.wrap ((n % k : Nat) : Int) = ((n % k : Nat) : Int) := IntWalk.i64_in _ (by omega)
    have e5 : (k : Int) ≠ 0 := by omega
    go_enter Tryz.func50, Tryz.ntmps50
    go_wp2_with fail
    refine (made_any h).mono ?_
    rintro e w1 ⟨rfl, rfl⟩
    go_wp2_with fail
    refine (in_any n hn h).mono ?_
    rw [hi]
    rintro e w1 ⟨rfl, rfl⟩
    go_wp2_with fail
    go_ret2
    exact ⟨by rw [slotV, slotE, hi]; rfl, rfl⟩
  | false =>
    go_enter Tryz.func50, Tryz.ntmps50
    go_wp2_with fail
    refine (made_any h).mono ?_
    rintro e w1 ⟨rfl, rfl⟩
    go_wp2_with fail
    refine (in_any n hn h).mono ?_
    rw [hi]
    rintro e w1 ⟨rfl, rfl⟩
    go_wp2_with fail
    go_ret2
    exact ⟨by rw [slotV, slotE, hi]; rfl, rfl⟩
theorem copy_any (h : WinR w g k b) : Calls Tryz.prog 48 #[.pointer (some ⟨g, 0, none⟩)] w fun e w' => e = .returned (.pointer (some ⟨w.heap.size, 0, none⟩)) ∧ WinR w' w.heap.size k b ∧ Keep w w' := by
  have c0 := h.c0
  have c1 := h.c1
  go_enter Tryz.func48, Tryz.ntmps48
  go_wp2_with fail
  refine (made_any h).mono ?_
  rintro e w1 ⟨rfl, rfl⟩
  go_wp2_with fail
  go_region
  go_wp2_with fail
  go_ret
  exact ⟨rfl, ⟨heap_alloc_new _ _, h.low, h.high, h.top⟩, ((Keep.refl _).alloc _ _).drew⟩
theorem new_in (k : Nat) (h1 : 1 ≤ k) (h2 : k ≤ 16) (w : World) : Calls Tryz.prog 33 #[.int .i64 (k : Int)] w fun e w' => e = .returned (.tuple #[.pointer (some ⟨w.heap.size, 0, none⟩), .int .i64 0]) ∧ WinR w' w.heap.size k 0 ∧ Keep w w' := by
  have b1 : decide ((k : Int) < 1) = false := decide_eq_false (by omega)
  have b2 : ¬ (16 : Int) < (k : Int) := by omega
  go_enter Tryz.func33, Tryz.ntmps33
  go_wp2_with fail
  go_ret2
  exact ⟨rfl, ⟨heap_alloc_new _ _, h1, h2, Nat.zero_le _⟩, (Keep.refl w).alloc _ _⟩
end
end Go.Proofs.YtgelalbmhllccaaGreat
/- A range over a method value, whose body goes on to its end: what the walk owes. -/
namespace Go.Proofs.YtgelalbmhllccaaGreat
open Go.RowKit
set_option linter.unusedVariables false
section
variable {F : Fence} {n : Nat} {P : Program}
/-- An iterator that hands yield N values, one behind the other; between two rounds it reads what Q says. -/
def Hands (F : Fence) (n : Nat) (P : Program) (gf : FuncId) (r : Value) (enc : Nat → Value) (Q : World → Prop) (N : Nat) : Prop :=
  ∀ (l : Nat) (J : Nat → World → Prop) (W : World), (∀ i W1, J i W1 → Q W1) →
    (∀ i W1, J i W1 → i < N → YieldAt F (n - 1) P l #[enc i] W1 fun e W' => e = .returned (.bool true) ∧ J (i + 1) W') → J 0 W →
    CallsIn F n P gf #[r, .func (.yield l) #[] #[]] W fun e W' => (∃ v, e = .returned v) ∧ J N W'
/-- The statement, where the function is a method value and the body always goes on. -/
theorem wpIn_range_method {g : Operand} {p : Tmp} {assign body : Code} {Q : Exit → Act → World → Prop} {a : Act} {w : World}
    (hro : F.round = none) (hn : 1 ≤ n) {gf : FuncId} {r : Value} (hg : a.eval g = .func (.func gf) #[r] #[]) (hF : F.fn gf) (eg : ∀ args w, (callFunc gf args).run P w = .ok (.enter gf args) w)
    {enc : Nat → Value} {R : World → Prop} {N : Nat} (hseq : Hands F (n - 1) P gf r enc R N)
    (I : Nat → World → Prop) (hR : ∀ i W, I i W → R W) (hI : OwnFrom w.heap.size I) (h0 : I 0 w) (b : Nat → Act)
    (hassign : ∀ (l i : Nat) (W : World) (K : Act → World → Prop), K (b i) W →
      assign.wpIn (F.inRound l) (n - 1 - 1) P (Exit.then K (fun _ _ _ => False)) { tmps := a.tmps.setIfInBounds p (enc i), defers := [] } W)
    (hbody : ∀ (l i : Nat) (W : World), I i W → i < N → w.heap.size ≤ W.heap.size → body.wpIn (F.inRound l) (n - 1 - 1) P (fun e _ W' => e = .normal ∧ KeepsFrom w.heap.size W W' ∧ I (i + 1) W') (b i) W)
    (hdone : ∀ (D : Nat) (W : World), w.heap.size ≤ D → I N W → W.heap[D]? = some (.deferred (some [])) → Q .normal { a with defers := { target := .collected D, args := #[] } :: a.defers } W) :
    (Code.rangeFunc g #[p] assign body).wpIn F n P Q a w := by
  refine wpIn_rangeFunc fun fn hfn => ?_
  rw [hro]
  -- the loop's record, ready, busy or done
  obtain ⟨rec, hrec⟩ : ∃ rec : LoopState → Loop, rec = fun st => { state := st, pending := none, fn, tmps := a.tmps, params := #[p], assign, body, defers := w.heap.size } := ⟨_, rfl⟩
  have hrec' : ∀ st, rec st = { state := st, pending := none, fn, tmps := a.tmps, params := #[p], assign, body, defers := w.heap.size } := fun st => by rw [hrec]
  -- what holds between two rounds
  obtain ⟨J, hJ⟩ : ∃ J : Nat → World → Prop, J = fun i W => I i W ∧ W.heap[w.heap.size + 1]? = some (.loop (rec .ready)) ∧ W.heap[w.heap.size]? = some (.deferred (some [])) := ⟨_, rfl⟩
  -- the world behind the two blocks that the statement lays
  obtain ⟨V, hV⟩ : ∃ V, (w.alloc (.deferred (some []))).alloc (.loop (rec .ready)) = V := ⟨_, rfl⟩
  refine ⟨w.heap.size + 1, [{ target := .collected w.heap.size, args := #[] }], V, { target := .fn (.func gf) #[], args := #[r, .func (.yield (w.heap.size + 1)) #[] #[]] }, V, gf, #[r, .func (.yield (w.heap.size + 1)) #[] #[]], V, ?_, ?_, ?_, ?_, fun _ => hn, ?_⟩
  · rw [← hV, hrec']
    exact run_enterLoop_outer _ _ _ _ _
  · simp only [resolve, hg]
    simp [go_sem]
  · intro f' hf'
    simp [Target.leads] at hf'
    subst hf'
    exact hF
  · simp [invoke, go_sem, eg]
  · have hz : J 0 V := by
      rw [hJ, ← hV]
      refine ⟨hI.alloc _ (hI.alloc _ h0), ?_, ?_⟩
      · have := World.alloc_heap_new (w.alloc (.deferred (some []))) (.loop (rec .ready))
        rw [World.size_alloc] at this
        exact this
      · exact (Below.heap_alloc _ _ _ (by simp)).trans (World.alloc_heap_new w _)
    refine (hseq (w.heap.size + 1) J _ (fun i W h => hR i W (by rw [hJ] at h; exact h.1)) ?_ hz).mono ?_
    · intro i W h hi
      rw [hJ] at h
      obtain ⟨h1, h2, h3⟩ := h
      have hlt := (Array.getElem?_eq_some_iff.1 h2).1
      have hy := run_yield (P := P) (args := #[enc i]) h2 (by rw [hrec']; rfl)
      rw [hrec'] at hy
      refine ⟨fn, a.tmps.setIfInBounds p (enc i), assign, body, by simpa using hy, roundIn_of_wpIn hfn (hassign _ i W _ ?_)⟩
      refine ⟨_, run_beginRound h2 (by rw [hrec']), ?_⟩
      have b1 : (W.putObj (w.heap.size + 1) (.loop { rec .ready with state := .busy })).heap[w.heap.size + 1]? = some (.loop (rec .busy)) := by
        rw [World.putObj_heap_same hlt, hrec', hrec']
      have b2 : (W.putObj (w.heap.size + 1) (.loop { rec .ready with state := .busy })).heap[w.heap.size]? = some (.deferred (some [])) := (World.putObj_heap_other (by omega)).trans h3
      refine wpIn_mono (hbody _ i _ (hI.putObj _ h1 (by omega) h2 rfl) hi (by simp; omega)) ?_
      rintro e a' W' ⟨rfl, k, hi'⟩
      have c1 := k.same _ _ (by omega) b1 rfl
      have c2 := k.same _ _ (Nat.le_refl _) b2 rfl
      refine ⟨_, _, run_endRound none c1, rfl, ?_⟩
      rw [hJ]
      refine ⟨hI.putObj _ hi' (by omega) c1 rfl, ?_, (World.putObj_heap_other (by omega)).trans c2⟩
      rw [World.putObj_heap_same (Array.getElem?_eq_some_iff.1 c1).1, hrec', hrec']; rfl
    · rintro e W ⟨⟨v, rfl⟩, h⟩
      rw [hJ] at h
      obtain ⟨h1, h2, h3⟩ := h
      have he := run_endLoop (P := P) h2 (by rw [hrec']; simp)
      rw [show (rec .ready).pending = none by rw [hrec']] at he
      exact ⟨none, _, he, hdone _ _ (Nat.le_refl _) (hI.putObj _ h1 (by omega) h2 rfl) ((World.putObj_heap_other (by omega)).trans h3)⟩
end
end Go.Proofs.YtgelalbmhllccaaGreat
/- The landed window: its numbers handed out, listed, moved. -/
namespace Go.Proofs.YtgelalbmhllccaaGreat
open Go.RowKit Go.Shelf
set_option linter.unusedVariables false
set_option linter.unusedSimpArgs false
attribute [local go_sem] Oper.semAt_some
set_option maxRecDepth 100000 in
set_option maxHeartbeats 1000000 in
/-- Numbers hands out what is in. -/
theorem numbers_any (n g k b : Nat) (hn : 1 ≤ n) : Hands Fence.wide n Tryz.prog 88 (.pointer (some ⟨g, 0, none⟩)) (fun i => .int .u64 ((b : Int) + (i : Int))) (fun W => WinR W g k b) (endN b k - b) := by
  intro l J W hQ hY h0
  have hw := hQ _ _ h0
  have hend : endN b k ≤ topN := Nat.min_le_right _ _
  have hbe : b ≤ topN := hw.top
  unfold topN at hend hbe
  refine callsIn_of_wp Tryz.func88 rfl trivial ?_ rfl
  simp only [Tryz.ntmps88, List.size_toArray, List.length_cons, List.length_nil, Nat.reduceAdd, Nat.reduceSub, Array.replicate_succ, Array.replicate_zero, List.push_toArray, List.append_toArray, List.nil_append, List.cons_append]
  gi_wp2_with (refine ⟨trivial, ?_⟩; gi_at_call 133; refine (callsIn_wide.2 (base_any hw)).mono ?_; rintro e w1 ⟨rfl, rfl⟩)
  gi_loopw [4] (fun p wr => ∃ i : Nat, i ≤ endN b k - b ∧ p = .int .u64 ((b : Int) + (i : Int)) ∧ J i wr) (fun p wr => endN b k - (intOf p).toNat)
  case atStart => exact ⟨0, Nat.zero_le _, by simp, h0⟩
  case round =>
    obtain ⟨i, hi, rfl, hJ⟩ := hrel
    have hwr := hQ _ _ hJ
    by_cases hlt : i < endN b k - b
    · have d : decide ((b : Int) + (i : Int) < (endN b k : Int)) = true := decide_eq_true (by omega)
      have d0 : (b : Int) + (i : Int) < (endN b k : Int) := by omega
      have e1 : IntKind.u64.wrap ((b : Int) + (i : Int) + 1) = (b : Int) + (i : Int) + 1 := IntWalk.u64_in _ (by omega)
      obtain ⟨fn, tmps, assign, body, hy, hR⟩ := hY i wr hJ hlt
      gi_wp2_with (refine ⟨trivial, ?_⟩; gi_at_call 134; refine (callsIn_wide.2 (end_any hwr)).mono ?_; rintro e w1 ⟨rfl, rfl⟩)
      refine hR.mono ?_
      rintro e W3 ⟨rfl, hJ3⟩
      gi_wp2
      go_roundw
      case rel => exact ⟨i + 1, by omega, by rw [Int.natCast_add]; simp [Int.add_assoc], hJ3⟩
      case measure => simp only [intOf]; omega
    · have d0 : ¬ (b : Int) + (i : Int) < (endN b k : Int) := by omega
      gi_wp2_with (refine ⟨trivial, ?_⟩; gi_at_call 134; refine (callsIn_wide.2 (end_any hwr)).mono ?_; rintro e w1 ⟨rfl, rfl⟩)
      go_end0
      obtain rfl : i = endN b k - b := by omega
      exact ⟨⟨_, rfl⟩, hJ⟩
theorem u64_gone (b k c i : Nat) (h : winIn c k (b + i) = false) : (goneN b k c (i + 1)).map u64 = (goneN b k c i).map u64 ++ [Value.int .u64 ((b : Int) + (i : Int))] := by
  rw [goneN_out _ _ _ _ h, List.map_append]; rfl
theorem owns_u {w : World} {base n : Nat} {v : Value} {l : List Nat} (h : w.ownsRow base 22 1 v n (l.map u64)) : ∃ A c, v = .slice A n c ∧ OwnU w base A n c l := by
  obtain ⟨A, c, rfl⟩ := own_shape h
  exact ⟨A, c, rfl, h⟩
end Go.Proofs.YtgelalbmhllccaaGreat
/- The landed window: Move. -/
namespace Go.Proofs.YtgelalbmhllccaaGreat
open Go.RowKit Go.Shelf
set_option linter.unusedVariables false
set_option linter.unusedSimpArgs false
attribute [local go_sem] Oper.semAt_some
theorem winR_own {β : Type} (g k b : Nat) : Go.Own (fun (_ : β) W => WinR W g k b) := fun s X Y row hs hg hrow =>
  ⟨(hg.block g hs.lt (fun e => by obtain ⟨o, ho, hc⟩ := hrow g e.symm; rw [hs.block] at ho; cases ho; cases hc)).trans hs.block, hs.low, hs.high, hs.top⟩
theorem WinR.not_row {W : World} {g k b base n : Nat} {v : Value} {xs : List Value} (h : WinR W g k b) (hr : W.ownsRow base 22 1 v n xs) : some g ≠ v.ownBlock := by
  rcases hr.2 with ⟨rfl, _⟩ | ⟨q, cap, cur, rfl, _, hgb, _⟩
  · simp [Value.ownBlock]
  · intro e
    obtain rfl : g = q := by simpa [Value.ownBlock] using e
    have := h.block.symm.trans hgb
    simp at this
theorem WinR.appended {W w1 : World} {g k b base n B : Nat} {v u : Value} {xs : List Value} {o : Obj} (h : WinR W g k b) (hr : W.ownsRow base 22 1 v n xs) (hg : (W.alloc o).grownBy w1 v.ownBlock) (hne : g ≠ B) : WinR (w1.setCell ⟨B, 0, none⟩ u) g k b := by
  have h1 : (W.alloc o).heap[g]? = W.heap[g]? := Below.heap_alloc W o g h.lt
  have h2 := hg.block g (by rw [World.size_alloc]; have := h.lt; omega) (h.not_row hr)
  exact ⟨(Below.heap_setCell _ _ _ _ hne).trans (h2.trans (h1.trans h.block)), h.low, h.high, h.top⟩
section
variable {g k b : Nat} {w : World}
theorem move_out (c : Nat) (hc : topN < c) (h : WinR w g k b) :
    Calls Tryz.prog 49 #[.pointer (some ⟨g, 0, none⟩), .int .u64 (c : Int)] w fun e w' => e = .returned (.tuple #[.slice none 0 0, .int .i64 1]) ∧ w' = w := by
  unfold topN at hc
  have d : (1099511627776 : Int) < (c : Int) := by omega
  go_enter Tryz.func49, Tryz.ntmps49
  go_wp2_with fail
  refine (made_any h).mono ?_
  rintro e w1 ⟨rfl, rfl⟩
  go_wp2_with fail
  go_ret2
  exact ⟨rfl, rfl⟩
set_option maxRecDepth 100000 in
set_option maxHeartbeats 4000000 in
theorem move_in (c : Nat) (hc : c ≤ topN) (h : WinR w g k b) :
    Calls Tryz.prog 49 #[.pointer (some ⟨g, 0, none⟩), .int .u64 (c : Int)] w fun e w' => ∃ A n q, e = .returned (.tuple #[.slice A n q, .int .i64 0]) ∧ OwnU w' w.heap.size A n q (winGone b k c) ∧ WinR w' g k c ∧ Turned (fun x => x = g) w w' := by
  have hc2 := hc
  unfold topN at hc2
  have hbe := h.top
  unfold topN at hbe
  have d : ¬ (1099511627776 : Int) < (c : Int) := by omega
  refine (callsIn_wide (n := 5)).1 ?_
  obtain ⟨i0, hi, hz0, hz1, hz2⟩ := info_parts infoU
  have hk := h.high
  have hN : endN b k - b ≤ 16 := by have := winL_le b k; rw [winL_length] at this; omega
  have c0 := h.c0
  have hlt := h.lt
  refine callsIn_of_wp_marks Tryz.func49 rfl trivial ?_ rfl
  simp only [Tryz.ntmps49, List.size_toArray, List.length_cons, List.length_nil, Nat.reduceAdd, Nat.reduceSub, Array.replicate_succ, Array.replicate_zero, List.push_toArray, List.append_toArray, List.nil_append, List.cons_append]
  gi_wp2_with (refine ⟨trivial, ?_⟩; gi_at_call 87; refine (callsIn_wide.2 (made_any h)).mono ?_; rintro e w1 ⟨rfl, rfl⟩)
  obtain ⟨V, hV⟩ : ∃ V, (((w1.alloc (.cells #[.int .i64 (k : Int), .int .u64 (c : Int)] 136)).alloc (.cells #[.pointer (some ⟨w1.heap.size, 0, none⟩)] 81)).alloc (.cells #[.slice none 0 0] 111)) = V := ⟨_, rfl⟩
  have hsz : V.heap.size = w1.heap.size + 3 := by rw [← hV]; simp
  have hK : Keep w1 V := by rw [← hV]; exact (((Keep.refl w1).alloc _ _).alloc _ _).alloc _ _
  have hM : WinR V w1.heap.size k c := by
    have h0 : WinR (w1.alloc (.cells #[.int .i64 (k : Int), .int .u64 (c : Int)] 136)) w1.heap.size k c := ⟨heap_alloc_new _ _, h.low, h.high, hc⟩
    rw [← hV]; exact (h0.keep ((Keep.refl _).alloc _ _)).keep ((Keep.refl _).alloc _ _)
  have hP : Boxed V (w1.heap.size + 1) 81 (.pointer (some ⟨w1.heap.size, 0, none⟩)) := by
    have h0 := Boxed.new (w1.alloc (.cells #[.int .i64 (k : Int), .int .u64 (c : Int)] 136)) 81 (.pointer (some ⟨w1.heap.size, 0, none⟩))
    rw [World.size_alloc] at h0
    rw [← hV]; exact h0.alloc _
  have hO : Boxed V (w1.heap.size + 1 + 1) 111 (.slice none 0 0) := by
    have h0 := Boxed.new ((w1.alloc (.cells #[.int .i64 (k : Int), .int .u64 (c : Int)] 136)).alloc (.cells #[.pointer (some ⟨w1.heap.size, 0, none⟩)] 81)) 111 (.slice none 0 0)
    rw [World.size_alloc, World.size_alloc] at h0
    rw [← hV]; exact h0
  rw [hV]
  clear hV
  refine wpIn_range_method rfl (by omega) (gf := 88) (r := .pointer (some ⟨g, 0, none⟩)) rfl trivial (enters_of Tryz.func88 (by kernel_rfl) rfl) (numbers_any _ g k b (by omega))
    (fun i W => ((∃ v, Boxed W (w1.heap.size + 1 + 1) 111 v ∧ W.ownsRow w1.heap.size 22 1 v (goneN b k c i).length ((goneN b k c i).map u64) ∧ True) ∧ Boxed W (w1.heap.size + 1) 81 (.pointer (some ⟨w1.heap.size, 0, none⟩)) ∧ WinR W w1.heap.size k c) ∧ Below w1.heap.size w1 W)
    (fun i W hI => h.keep hI.2)
    ?own
    ⟨⟨⟨_, hO, World.ownsRow_nil _ _ _ _, trivial⟩, hP, hM⟩, hK⟩
    (fun i => { tmps := #[.pointer (some ⟨g, 0, none⟩), .int .u64 (c : Int), undef, undef, .slice none 0 0, .int .i64 0, .pointer (some ⟨w1.heap.size + 1, 0, none⟩), .pointer (some ⟨w1.heap.size + 1 + 1, 0, none⟩), .int .u64 ((b : Int) + (i : Int)), .pointer (some ⟨g, 0, none⟩), .bool true, .bool false, .int .u64 (c : Int), .bool (decide (1099511627776 < (c : Int))), .pointer (some ⟨g, 0, none⟩), .pointer (some ⟨g, 0, none⟩), .pointer (some ⟨g, 0, none⟩), .int .i64 (k : Int), .int .u64 (c : Int), .agg #[.int .i64 (k : Int), .int .u64 (c : Int)], .pointer (some ⟨w1.heap.size, 0, none⟩), .pointer (some ⟨g, 0, none⟩), .func (.func 88) #[.pointer (some ⟨g, 0, none⟩)] #[], .int .u64 ((b : Int) + (i : Int)), undef, undef, undef, undef, undef, undef, undef, undef, undef, undef, undef, undef, undef], defers := [] }) ?assign ?body ?done
  case own =>
    refine OwnFrom.and (OwnFrom.and (Own.from (holdsRow_own w1.heap.size (w1.heap.size + 1 + 1) 111 22 1 (fun i => (goneN b k c i).length) (fun i => (goneN b k c i).map u64) (fun _ _ => True)) _) (OwnFrom.and (Own.from (boxed_own _ _ _) _) (Own.from (winR_own _ _ _) _))) (ownFrom_below (Nat.le_refl _) (by omega))
  case assign =>
    intro l i W K hK
    gi_wp2
    exact hK
  case body =>
    rintro l i W ⟨⟨⟨v, hv, hrow, _⟩, hp, hm⟩, hB⟩ hlt hge
    have cv := hv.cell
    have cp := hp.cell
    have hnx : b + i < 18446744073709551616 := by
      have : endN b k ≤ topN := Nat.min_le_right _ _
      unfold topN at this
      omega
    have hin := in_any (b + i) hnx hm
    rw [Int.natCast_add] at hin
    have hgl := goneN_le b k c i
    cases hi2 : winIn c k (b + i) with
    | true =>
      rw [hi2] at hin
      gi_wp2_with (refine ⟨trivial, ?_⟩; gi_at_call 89; refine (CallsIn.inRound l (callsIn_wide.2 hin)).mono ?_; rintro e w2 ⟨rfl, rfl⟩)
      exact ⟨KeepsFrom.refl _ _, v, hv, by rw [goneN_in _ _ _ _ hi2]; exact hrow⟩
    | false =>
      rw [hi2] at hin
      gi_wp2_with first
        | (refine ⟨trivial, ?_⟩; gi_at_call 89; refine (CallsIn.inRound l (callsIn_wide.2 hin)).mono ?_; rintro e w2 ⟨rfl, rfl⟩)
        | (gi_at_builtin; refine wpListIn_append_own _ rfl _ _ 111 rfl w1.heap.size 22 i0 (.int .u64 0) 1 8 Tryz.underlying111 hi hz0 hz1 hz2 rfl (by decide) _ _ _ rfl (hrow.alloc _) ⟨w2.heap.size, 0, none⟩ 1 1 [.int .u64 ((b : Int) + (i : Int))] rfl rfl (cell_one_new _ _ _) (by simp [Value.oneCell']) (by unfold maxLen; omega) (by omega) (by have := hB.size; simp; omega) ?_; intro v' w3 hown' hgrow _; obtain ⟨g', cap', rfl⟩ := ownsRow_succ hown'; obtain ⟨hv1, hv2, hr2, hk2, hb2⟩ := hv.appended (by decide) hrow hB.size (by omega) hown' hgrow; have hc1 := hv1.cell; have hf1 := hv1.frozen)
      have hpk : Boxed (w3.setCell ⟨w1.heap.size + 1 + 1, 0, none⟩ (.slice (some ⟨g', 0, none⟩) ((goneN b k c i).length + 1) cap')) (w1.heap.size + 1) 81 (.pointer (some ⟨w1.heap.size, 0, none⟩)) :=
        Boxed.other ((hp.alloc _).kept hgrow (hp.not_row (by decide) hrow)) (by omega) _
      have hmk : WinR (w3.setCell ⟨w1.heap.size + 1 + 1, 0, none⟩ (.slice (some ⟨g', 0, none⟩) ((goneN b k c i).length + 1) cap')) w1.heap.size k c := hm.appended hrow hgrow (by omega)
      exact ⟨hk2.from _, ⟨⟨_, hv2, by rw [u64_gone _ _ _ _ hi2, goneN_out _ _ _ _ hi2, List.length_append]; exact hr2⟩, hpk, hmk⟩, hB.trans hb2⟩
  case done =>
    rintro D W hD ⟨⟨⟨v, hv, hrow, _⟩, hp, hm⟩, hB⟩ hK
    obtain ⟨A, q, rfl, hown⟩ := owns_u hrow
    have cv := hv.cell
    have hw := h.keep hB
    have cf := hw.free
    have cg := hw.c1
    have hne : g ≠ w1.heap.size + 1 + 1 := by omega
    have ht : Turned (fun x => x = g) W (W.setCell ⟨g, 1, none⟩ (.int .u64 (c : Int))) := Turned.set (F := fun x => x = g) _ _ _ rfl
    have cv2 : (W.setCell ⟨g, 1, none⟩ (.int .u64 (c : Int))).cell? ⟨w1.heap.size + 1 + 1, 0, none⟩ = some (.slice A (goneN b k c (endN b k - b)).length q) := ht.cell cv (show ¬ (w1.heap.size + 1 + 1 = g) by omega)
    gi_wp2
    refine ⟨by simp, .inl ⟨_, _, rfl, run_takeDeferred (ht.block D (Array.getElem?_eq_some_iff.1 hK).1 (show ¬ (D = g) by omega) |>.trans hK), ?_⟩⟩
    have hz : (W.setCell ⟨g, 1, none⟩ (.int .u64 (c : Int))).heap.size = W.heap.size := by simp [World.setCell]
    have hDl := (Array.getElem?_eq_some_iff.1 hK).1
    have hKs : (W.setCell ⟨g, 1, none⟩ (.int .u64 (c : Int))).heap[D]? = some (.deferred (some [])) := (ht.block D hDl (show ¬ (D = g) by omega)).trans hK
    have tw : Turned (fun x => x = g) w1 ((W.setCell ⟨g, 1, none⟩ (.int .u64 (c : Int))).putObj D (.deferred none)) := by
      refine ((Turned.of_keep (F := fun x => x = g) hB).trans ht fun i e => Or.inl e).trans (Turned.of_grown (F := fun x => x = D) (grownBy_putObj' _ D (.deferred none)) fun i e => by cases e; rfl) fun i e => Or.inr ?_
      have e : i = D := e
      omega
    have ho : OwnU (W.setCell ⟨g, 1, none⟩ (.int .u64 (c : Int))) w1.heap.size A _ q (goneN b k c (endN b k - b)) := ht.owns hown fun x hx e => by
      have := hown.rowLe x hx
      omega
    have hm2 := hw.moved hc
    exact ⟨_, results_tmp2 rfl _ _ _, A, _, q, rfl, ownsRow_putObj ho _ hKs rfl, ⟨(World.putObj_heap_other (by omega)).trans hm2.block, hm2.low, hm2.high, hm2.top⟩, tw⟩
end
end Go.Proofs.YtgelalbmhllccaaGreat
/- The landed relay: how it lies in memory. -/
namespace Go.Proofs.YtgelalbmhllccaaGreat
open Go.RowKit Lin
set_option linter.unusedVariables false
set_option linter.unusedSimpArgs false
/-- A place of the array: the block of its basis (none: no basis), the blocks that it owns, its rows. -/
structure Slot where
  p : Option Nat
  F : Nat → Prop
  B : List (List Nat)
namespace Slot
def val (x : Slot) : Value := .pointer (x.p.map fun b => ⟨b, 0, none⟩)
def none_ : Slot := ⟨none, fun _ => False, []⟩
def Ok (w : World) (g s : Nat) (x : Slot) : Prop := match x.p with
  | none => (∀ k, ¬ x.F k) ∧ x.B = []
  | some b => BasR w x.F b g s x.B
variable {w w' : World} {g s : Nat} {x : Slot} {G : Nat → Prop}
theorem none_ok (w : World) (g s : Nat) : none_.Ok w g s := ⟨fun _ e => e, rfl⟩
theorem Ok.bas (h : x.Ok w g s) {b : Nat} (hp : x.p = some b) : BasR w x.F b g s x.B := by
  unfold Ok at h; rw [hp] at h; exact h
theorem ok_of {F : Nat → Prop} {b : Nat} {B : List (List Nat)} (h : BasR w F b g s B) : Ok w g s ⟨some b, F, B⟩ := h
theorem Ok.lt (h : x.Ok w g s) : ∀ k, x.F k → k < w.heap.size := by
  unfold Ok at h
  split at h
  · exact fun k hk => (h.1 k hk).elim
  · exact h.fine.2.2.2.2.2
theorem Ok.turned (h : x.Ok w g s) (t : Turned G w w') (hd : ∀ b, x.F b → ¬ G b) : x.Ok w' g s := by
  unfold Ok at h ⊢
  split at h
  · exact h
  · exact h.turned t hd
theorem Ok.keep (h : x.Ok w g s) (k : Keep w w') : x.Ok w' g s := h.turned (Turned.of_keep (F := fun _ => False) k) fun _ _ e => e
theorem Ok.none (h : x.Ok w g s) (hp : x.p = Option.none) : x.B = [] ∧ ∀ k, ¬ x.F k := by
  unfold Ok at h; rw [hp] at h; exact ⟨h.2, h.1⟩
end Slot
theorem set_get {α : Type} {S : List α} {i j : Nat} {x y : α} (h : (S.set i x)[j]? = some y) : (j = i ∧ y = x) ∨ (j ≠ i ∧ S[j]? = some y) := by
  rw [List.getElem?_set] at h
  by_cases e : i = j
  · rw [if_pos e] at h
    split at h
    · exact Or.inl ⟨e.symm, (Option.some.inj h).symm⟩
    · cases h
  · rw [if_neg e] at h; exact Or.inr ⟨fun e2 => e e2.symm, h⟩
/-- A relay's block, and what stands in its places. -/
structure RelC (w : World) (p wb g s : Nat) (S : List Slot) : Prop where
  block : w.heap[p]? = some (.cells (Value.pointer (some ⟨wb, 0, none⟩) :: Value.int .i64 (g : Int) :: Value.int .i64 (s : Int) :: S.map Slot.val).toArray 89 (0, 0))
  len : S.length = 16
  ok : ∀ x ∈ S, x.Ok w g s
  apart : ∀ (i j : Nat) (x y : Slot), i ≠ j → S[i]? = some x → S[j]? = some y → ∀ b, x.F b → ¬ y.F b
  off : ∀ x ∈ S, ∀ b, x.F b → b ≠ p ∧ b ≠ wb
  ne : p ≠ wb
  g1 : 1 ≤ g
  g2 : g ≤ 255
  s1 : 1 ≤ s
  s2 : s ≤ 65535
namespace RelC
variable {w w' w1 : World} {p wb g s : Nat} {S : List Slot} {G : Nat → Prop}
theorem lt (h : RelC w p wb g s S) : p < w.heap.size := (Array.getElem?_eq_some_iff.1 h.block).1
theorem c0 (h : RelC w p wb g s S) : w.cell? ⟨p, 0, none⟩ = some (.pointer (some ⟨wb, 0, none⟩)) := by simp [World.cell?, h.block]
theorem c1 (h : RelC w p wb g s S) : w.cell? ⟨p, 1, none⟩ = some (.int .i64 (g : Int)) := by simp [World.cell?, h.block]
theorem c2 (h : RelC w p wb g s S) : w.cell? ⟨p, 2, none⟩ = some (.int .i64 (s : Int)) := by simp [World.cell?, h.block]
theorem cs (h : RelC w p wb g s S) {i : Nat} {x : Slot} (hx : S[i]? = some x) : w.cell? ⟨p, 3 + i, none⟩ = some x.val := by
  simp only [World.cell?, h.block]
  rw [List.getElem?_toArray, show 3 + i = i + 1 + 1 + 1 by omega, List.getElem?_cons_succ, List.getElem?_cons_succ, List.getElem?_cons_succ, List.getElem?_map, hx]; rfl
theorem free (h : RelC w p wb g s S) (i : Nat) : w.frozen? ⟨p, i, none⟩ = false := by simp [World.frozen?, h.block]
theorem turned (h : RelC w p wb g s S) (t : Turned G w w') (hp : ¬ G p) (hd : ∀ x ∈ S, ∀ b, x.F b → ¬ G b) : RelC w' p wb g s S :=
  ⟨(t.block p h.lt hp).trans h.block, h.len, fun x hx => (h.ok x hx).turned t (hd x hx), h.apart, h.off, h.ne, h.g1, h.g2, h.s1, h.s2⟩
theorem keep (h : RelC w p wb g s S) (k : Keep w w') : RelC w' p wb g s S := h.turned (Turned.of_keep (F := fun _ => False) k) (fun e => e) fun _ _ _ _ e => e
/-- What stands in a place has turned. -/
theorem put (h : RelC w p wb g s S) {i : Nat} {x x' : Slot} (hx : S[i]? = some x) (ok' : x'.Ok w' g s) (hp : x'.p = x.p) (hf : ∀ b, x'.F b → x.F b ∨ w.heap.size ≤ b) (t : Turned x.F w w') (hwb : wb < w.heap.size) : RelC w' p wb g s (S.set i x') := by
  have hi : i < S.length := (List.getElem?_eq_some_iff.1 hx).1
  have hm := List.mem_of_getElem? hx
  have hnp : ¬ x.F p := fun e => (h.off x hm p e).1 rfl
  have get : ∀ j y, (S.set i x')[j]? = some y → (j = i ∧ y = x') ∨ (j ≠ i ∧ S[j]? = some y) := fun j y hy => set_get hy
  have mem : ∀ y ∈ S.set i x', y = x' ∨ ∃ j, j ≠ i ∧ S[j]? = some y := fun y hy => by
    obtain ⟨j, hj⟩ := List.getElem?_of_mem hy
    rcases get j y hj with ⟨_, e⟩ | e
    · exact Or.inl e
    · exact Or.inr ⟨j, e⟩
  refine ⟨?_, by rw [List.length_set]; exact h.len, fun y hy => ?_, fun j k y z hjk hy hz b hb hc => ?_, fun y hy b hb => ?_, h.ne, h.g1, h.g2, h.s1, h.s2⟩
  · rw [t.block p h.lt hnp, h.block, List.map_set]
    have e1 : x'.val = x.val := by unfold Slot.val; rw [hp]
    have e2 : (S.map Slot.val).set i x'.val = S.map Slot.val := by
      rw [e1]
      refine List.ext_getElem? fun j => ?_
      rw [List.getElem?_set]
      by_cases e : i = j
      · subst e; rw [if_pos rfl, if_pos (by rw [List.length_map]; exact hi), List.getElem?_map, hx]; rfl
      · rw [if_neg e]
    rw [e2]
  · rcases mem y hy with rfl | ⟨j, hj, hy2⟩
    · exact ok'
    · exact (h.ok y (List.mem_of_getElem? hy2)).turned t fun b hb e => h.apart i j x y (fun e => hj e.symm) hx hy2 b e hb
  · rcases get j y hy with ⟨rfl, rfl⟩ | ⟨hj, hy2⟩
    · rcases get k z hz with ⟨rfl, rfl⟩ | ⟨hk, hz2⟩
      · exact hjk rfl
      · rcases hf b hb with e | e
        · exact h.apart j k x z hjk hx hz2 b e hc
        · have := (h.ok z (List.mem_of_getElem? hz2)).lt b hc; omega
    · rcases get k z hz with ⟨rfl, rfl⟩ | ⟨hk, hz2⟩
      · rcases hf b hc with e | e
        · exact h.apart j k y x hjk hy2 hx b hb e
        · have := (h.ok y (List.mem_of_getElem? hy2)).lt b hb; omega
      · exact h.apart j k y z hjk hy2 hz2 b hb hc
  · rcases mem y hy with rfl | ⟨j, hj, hy2⟩
    · rcases hf b hb with e | e
      · exact h.off x hm b e
      · have := h.lt; exact ⟨by omega, by omega⟩
    · exact h.off y (List.mem_of_getElem? hy2) b hb
/-- Another basis is laid into a place. -/
theorem set (h : RelC w p wb g s S) {i : Nat} {x' : Slot} (hi : i < 16) (k : Keep w w1) (ok' : x'.Ok w1 g s) (hf : ∀ b, x'.F b → w.heap.size ≤ b) (hwb : wb < w.heap.size) : RelC (w1.setCell ⟨p, 3 + i, none⟩ x'.val) p wb g s (S.set i x') := by
  have hl := h.lt
  have hn : i < S.length := by rw [h.len]; exact hi
  have get : ∀ j y, (S.set i x')[j]? = some y → (j = i ∧ y = x') ∨ (j ≠ i ∧ S[j]? = some y) := fun j y hy => set_get hy
  have mem : ∀ y ∈ S.set i x', y = x' ∨ ∃ j, j ≠ i ∧ S[j]? = some y := fun y hy => by
    obtain ⟨j, hj⟩ := List.getElem?_of_mem hy
    rcases get j y hj with ⟨_, e⟩ | e
    · exact Or.inl e
    · exact Or.inr ⟨j, e⟩
  have t : Turned (fun b => b = p) w1 (w1.setCell ⟨p, 3 + i, none⟩ x'.val) := Turned.set (F := fun b => b = p) w1 ⟨p, 3 + i, none⟩ x'.val rfl
  refine ⟨?_, by rw [List.length_set]; exact h.len, fun y hy => ?_, fun j q y z hjk hy hz b hb hc => ?_, fun y hy b hb => ?_, h.ne, h.g1, h.g2, h.s1, h.s2⟩
  · rw [bset ((k.block p hl).trans h.block), List.map_set]
    congr 2
    refine Array.ext' ?_
    rw [Array.toList_setIfInBounds]
    show List.set (_ :: _ :: _ :: _) (3 + i) _ = _
    rw [show 3 + i = i + 1 + 1 + 1 by omega, List.set_cons_succ, List.set_cons_succ, List.set_cons_succ]
  · rcases mem y hy with rfl | ⟨j, hj, hy2⟩
    · exact ok'.turned t fun b hb e => by have := hf b hb; omega
    · exact ((h.ok y (List.mem_of_getElem? hy2)).keep k).turned t fun b hb e => (h.off y (List.mem_of_getElem? hy2) b hb).1 e
  · rcases get j y hy with ⟨rfl, rfl⟩ | ⟨hj, hy2⟩
    · rcases get q z hz with ⟨rfl, rfl⟩ | ⟨hk, hz2⟩
      · exact hjk rfl
      · have := hf b hb
        have := (h.ok z (List.mem_of_getElem? hz2)).lt b hc; omega
    · rcases get q z hz with ⟨rfl, rfl⟩ | ⟨hk, hz2⟩
      · have := hf b hc
        have := (h.ok y (List.mem_of_getElem? hy2)).lt b hb; omega
      · exact h.apart j q y z hjk hy2 hz2 b hb hc
  · rcases mem y hy with rfl | ⟨j, hj, hy2⟩
    · have := hf b hb; exact ⟨by omega, by omega⟩
    · exact h.off y (List.mem_of_getElem? hy2) b hb
end RelC
/-- A relay of g and s, of width k and base b: generation n has the rows L n; all that it holds lies in blocks of F. -/
structure RelA (w : World) (F : Nat → Prop) (p g s k b : Nat) (L : Nat → List (List Nat)) (wb : Nat) (S : List Slot) : Prop where
  c : RelC w p wb g s S
  win : WinR w wb k b
  made : ∀ i x, S[i]? = some x → (x.p = none ↔ k ≤ i)
  fp : F p
  fw : F wb
  fs : ∀ x ∈ S, ∀ q, x.F q → F q
  lt : ∀ q, F q → q < w.heap.size
  in_ : ∀ n, winIn b k n = true → ∀ x, S[n % k]? = some x → x.B = L n
  out : ∀ n, winIn b k n = false → L n = []
  free : ∀ i x, i < k → S[i]? = some x → (∀ n, winIn b k n = true → n % k ≠ i) → x.B = []
def RelR (w : World) (F : Nat → Prop) (p g s k b : Nat) (L : Nat → List (List Nat)) : Prop := ∃ wb S, RelA w F p g s k b L wb S
/-- One generation has other rows. -/
def upd (L : Nat → List (List Nat)) (n : Nat) (B : List (List Nat)) : Nat → List (List Nat) := fun m => if m = n then B else L m
theorem upd_at (L : Nat → List (List Nat)) (n : Nat) (B : List (List Nat)) : upd L n B n = B := if_pos rfl
theorem upd_ne (L : Nat → List (List Nat)) {n m : Nat} (B : List (List Nat)) (h : m ≠ n) : upd L n B m = L m := if_neg h
/-- Two of a window do not meet in a slot. -/
theorem slot_inj {b k n m : Nat} (hk : 1 ≤ k) (hn : winIn b k n = true) (hm : winIn b k m = true) (h : n % k = m % k) : n = m := by
  rw [winIn_iff, endN] at hn hm
  rcases Nat.lt_or_ge n m with e | e
  · have h1 := Nat.sub_mod_eq_zero_of_mod_eq h.symm
    rw [Nat.mod_eq_of_lt (by omega)] at h1
    omega
  · have h1 := Nat.sub_mod_eq_zero_of_mod_eq h
    rw [Nat.mod_eq_of_lt (by omega)] at h1
    omega
section
variable {w w' : World} {F G : Nat → Prop} {p g s k b wb : Nat} {L : Nat → List (List Nat)} {S : List Slot}
theorem RelA.r (h : RelA w F p g s k b L wb S) : RelR w F p g s k b L := ⟨wb, S, h⟩
theorem RelA.turned (h : RelA w F p g s k b L wb S) (t : Turned G w w') (hd : ∀ q, F q → ¬ G q) : RelA w' F p g s k b L wb S :=
  ⟨h.c.turned t (hd p h.fp) fun x hx q hq => hd q (h.fs x hx q hq), h.win.turned t (hd wb h.fw), h.made, h.fp, h.fw, h.fs, fun q hq => Nat.lt_of_lt_of_le (h.lt q hq) t.size, h.in_, h.out, h.free⟩
theorem RelA.keep (h : RelA w F p g s k b L wb S) (t : Keep w w') : RelA w' F p g s k b L wb S := h.turned (Turned.of_keep (F := fun _ => False) t) fun _ _ e => e
theorem RelR.turned (h : RelR w F p g s k b L) (t : Turned G w w') (hd : ∀ q, F q → ¬ G q) : RelR w' F p g s k b L := by
  obtain ⟨wb, S, h⟩ := h; exact (h.turned t hd).r
theorem RelR.keep (h : RelR w F p g s k b L) (t : Keep w w') : RelR w' F p g s k b L := by
  obtain ⟨wb, S, h⟩ := h; exact (h.keep t).r
theorem RelR.lt (h : RelR w F p g s k b L) : ∀ q, F q → q < w.heap.size := by
  obtain ⟨wb, S, h⟩ := h; exact h.lt
theorem RelR.out (h : RelR w F p g s k b L) : ∀ n, winIn b k n = false → L n = [] := by
  obtain ⟨wb, S, h⟩ := h; exact h.out
/-- The place of a generation that is in the window. -/
theorem RelA.at_ (h : RelA w F p g s k b L wb S) {n : Nat} (hn : winIn b k n = true) : ∃ x q, S[n % k]? = some x ∧ x.p = some q ∧ x.B = L n ∧ BasR w x.F q g s (L n) := by
  have h1 := h.win.low
  have h2 := h.win.high
  have hm : n % k < k := Nat.mod_lt _ (by omega)
  obtain ⟨x, hx⟩ : ∃ x, S[n % k]? = some x := ⟨_, List.getElem?_eq_getElem (by rw [h.c.len]; omega)⟩
  obtain ⟨q, hq⟩ : ∃ q, x.p = some q := by
    cases e : x.p with
    | none => have := (h.made _ x hx).1 e; omega
    | some q => exact ⟨q, rfl⟩
  have hB := h.in_ n hn x hx
  exact ⟨x, q, hx, hq, hB, hB ▸ (h.c.ok x (List.mem_of_getElem? hx)).bas hq⟩
/-- Every generation's rows are a basis. -/
theorem RelR.bas (h : RelR w F p g s k b L) (n : Nat) : Bas g s (L n) := by
  obtain ⟨wb, S, h⟩ := h
  cases e : winIn b k n with
  | true => obtain ⟨x, q, _, _, _, hb⟩ := h.at_ e; exact hb.fine.1
  | false => rw [h.out n e]; exact Bas.nil g s
theorem RelR.fine (h : RelR w F p g s k b L) : 1 ≤ g ∧ g ≤ 255 ∧ 1 ≤ s ∧ s ≤ 65535 ∧ 1 ≤ k ∧ k ≤ 16 ∧ b ≤ topN := by
  obtain ⟨wb, S, h⟩ := h
  exact ⟨h.c.g1, h.c.g2, h.c.s1, h.c.s2, h.win.low, h.win.high, h.win.top⟩
/-- One generation's basis has turned. -/
theorem RelA.put (h : RelA w F p g s k b L wb S) {n q : Nat} (hn : winIn b k n = true) {x : Slot} (hx : S[n % k]? = some x) (hq : x.p = some q) {F' : Nat → Prop} {B' : List (List Nat)} (r : BasR w' F' q g s B') (hf : ∀ j, F' j → x.F j ∨ w.heap.size ≤ j) (t : Turned x.F w w') :
    RelA w' (fun j => F j ∨ w.heap.size ≤ j ∧ j < w'.heap.size) p g s k b (upd L n B') wb (S.set (n % k) ⟨some q, F', B'⟩) := by
  have h1 := h.win.low
  have hm := List.mem_of_getElem? hx
  have hi : n % k < S.length := (List.getElem?_eq_some_iff.1 hx).1
  have get : ∀ j y, (S.set (n % k) ⟨some q, F', B'⟩)[j]? = some y → (j = n % k ∧ y = ⟨some q, F', B'⟩) ∨ (j ≠ n % k ∧ S[j]? = some y) := fun j y hy => set_get hy
  refine ⟨h.c.put hx (Slot.ok_of r) hq.symm hf t h.win.lt, h.win.turned t fun e => (h.c.off x hm wb e).2 rfl, fun i y hy => ?_, Or.inl h.fp, Or.inl h.fw, fun y hy j hj => ?_, fun j hj => ?_, fun m hmm y hy => ?_, fun m hmm => ?_, fun i y hi2 hy hno => ?_⟩
  · rcases get i y hy with ⟨rfl, rfl⟩ | ⟨_, hy2⟩
    · have := h.made _ x hx
      rw [hq] at this
      exact ⟨(fun e => by cases e), (fun e => by have := this.2 e; cases this)⟩
    · exact h.made i y hy2
  · obtain ⟨i, hi2⟩ := List.getElem?_of_mem hy
    rcases get i y hi2 with ⟨rfl, rfl⟩ | ⟨_, hy2⟩
    · rcases hf j hj with e | e
      · exact Or.inl (h.fs x hm j e)
      · exact Or.inr ⟨e, r.fine.2.2.2.2.2 j hj⟩
    · exact Or.inl (h.fs y (List.mem_of_getElem? hy2) j hj)
  · rcases hj with e | e
    · exact Nat.lt_of_lt_of_le (h.lt j e) t.size
    · exact e.2
  · rcases get _ y hy with ⟨e, rfl⟩ | ⟨e, hy2⟩
    · rw [slot_inj h1 hmm hn e, upd_at]
    · rw [upd_ne _ _ fun e2 => e (by rw [e2])]; exact h.in_ m hmm y hy2
  · rw [upd_ne _ _ fun e2 => by rw [e2, hn] at hmm; cases hmm]; exact h.out m hmm
  · rcases get i y hy with ⟨rfl, rfl⟩ | ⟨_, hy2⟩
    · exact (hno n hn rfl).elim
    · exact h.free i y hi2 hy2 hno
end
end Go.Proofs.YtgelalbmhllccaaGreat
/- The landed relay: what is asked of one generation. -/
namespace Go.Proofs.YtgelalbmhllccaaGreat
open Go.RowKit Lin
set_option linter.unusedVariables false
set_option linter.unusedSimpArgs false
section
variable {w : World} {p wb : Nat}
theorem rmade_any (c0 : w.cell? ⟨p, 0, none⟩ = some (.pointer (some ⟨wb, 0, none⟩))) : Calls Tryz.prog 47 #[.pointer (some ⟨p, 0, none⟩)] w fun e w' => e = .returned (.bool true) ∧ w' = w := by
  go_enter Tryz.func47, Tryz.ntmps47
  go_wp2_with fail
  go_ret
  exact ⟨rfl, rfl⟩
end
section
variable {w : World} {F : Nat → Prop} {p g s k b wb : Nat} {L : Nat → List (List Nat)} {S : List Slot}
theorem slot_in (h : WinR w wb k b) {n m : Nat} (hn : n < 18446744073709551616) (hin : winIn b k n = true) (hm : n % k = m) : Calls Tryz.prog 50 #[.pointer (some ⟨wb, 0, none⟩), .int .u64 (n : Int)] w fun e w' => e = .returned (.tuple #[.int .i64 (m : Int), .int .i64 0]) ∧ w' = w :=
  (slot_any n hn h).mono fun e w' hh => ⟨by rw [hh.1, slotV, slotE, if_pos hin, if_pos hin, hm], hh.2⟩
theorem slot_no (h : WinR w wb k b) {n : Nat} (hn : n < 18446744073709551616) (hin : winIn b k n = false) : Calls Tryz.prog 50 #[.pointer (some ⟨wb, 0, none⟩), .int .u64 (n : Int)] w fun e w' => e = .returned (.tuple #[.int .i64 0, .int .i64 1]) ∧ w' = w :=
  (slot_any n hn h).mono fun e w' hh => ⟨by rw [hh.1, slotV, slotE, if_neg (by rw [hin]; decide), if_neg (by rw [hin]; decide)]; rfl, hh.2⟩
theorem ask_bool_in (h : RelA w F p g s k b L wb S) (n q5 : Nat) (hn : n < 18446744073709551616) (hin : winIn b k n = true) {x : Slot} {q : Nat} (hx : S[n % k]? = some x) (hq : x.p = some q) {Q : Value → Value → World → Prop}
    (hf : Calls Tryz.prog 41 #[.pointer (some ⟨q, 0, none⟩), .pointer (some ⟨q5, 0, none⟩)] w fun e w' => ∃ a c, e = .returned (.tuple #[a, c]) ∧ Q a c w') :
    Calls Tryz.prog 40 #[.pointer (some ⟨p, 0, none⟩), .int .u64 (n : Int), .func (.func 41) #[] #[.pointer (some ⟨q5, 0, none⟩)]] w fun e w' => ∃ a c, e = .returned (.tuple #[a, c]) ∧ Q a c w' := by
  have h1 := h.win.low
  have h2 := h.win.high
  obtain ⟨m, hm⟩ : ∃ m, n % k = m := ⟨_, rfl⟩
  have hmk : m < 16 := by have := Nat.mod_lt n (show 0 < k by omega); omega
  rw [hm] at hx
  have c0 := h.c.c0
  have cs := h.c.cs hx
  rw [Slot.val, hq] at cs
  replace cs : w.cell? ⟨p, 3 + m, none⟩ = some (.pointer (some ⟨q, 0, none⟩)) := cs
  have HS := Lib.hid (slot_in h.win hn hin hm)
  have HM := Lib.hid (rmade_any c0)
  have HF := Lib.hid hf
  clear hf h h1 h2 hx hin hn hm hq
  go_enter Tryz.func40, Tryz.ntmps40
  go_wp2_with fail
  refine HM.out.mono ?_
  rintro e w1 ⟨rfl, rfl⟩
  go_wp2_with fail
  refine HS.out.mono ?_
  rintro e w1 ⟨rfl, rfl⟩
  go_wp2_with fail
  refine HF.out.mono ?_
  rintro e w1 ⟨a, c, rfl, hQ⟩
  have HQ := Lib.hid hQ
  clear hQ
  go_wp2_with fail
  go_ret2
  exact ⟨a, c, rfl, HQ.out⟩
theorem ask_bool_out (h : RelA w F p g s k b L wb S) (n q5 : Nat) (hn : n < 18446744073709551616) (hin : winIn b k n = false) :
    Calls Tryz.prog 40 #[.pointer (some ⟨p, 0, none⟩), .int .u64 (n : Int), .func (.func 41) #[] #[.pointer (some ⟨q5, 0, none⟩)]] w fun e w' => e = .returned (.tuple #[.bool false, .int .i64 23]) ∧ w' = w := by
  have c0 := h.c.c0
  have HS := Lib.hid (slot_no h.win hn hin)
  have HM := Lib.hid (rmade_any c0)
  clear h hin hn
  go_enter Tryz.func40, Tryz.ntmps40
  go_wp2_with fail
  refine HM.out.mono ?_
  rintro e w1 ⟨rfl, rfl⟩
  go_wp2_with fail
  refine HS.out.mono ?_
  rintro e w1 ⟨rfl, rfl⟩
  go_wp2_with fail
  go_ret2
  exact ⟨rfl, rfl⟩
theorem ask_int_in (h : RelA w F p g s k b L wb S) (n : Nat) (hn : n < 18446744073709551616) (hin : winIn b k n = true) {x : Slot} {q : Nat} (hx : S[n % k]? = some x) (hq : x.p = some q) {Q : Value → Value → World → Prop}
    (hf : Calls Tryz.prog 67 #[.pointer (some ⟨q, 0, none⟩)] w fun e w' => ∃ a c, e = .returned (.tuple #[a, c]) ∧ Q a c w') :
    Calls Tryz.prog 66 #[.pointer (some ⟨p, 0, none⟩), .int .u64 (n : Int), .func (.func 67) #[] #[]] w fun e w' => ∃ a c, e = .returned (.tuple #[a, c]) ∧ Q a c w' := by
  have h1 := h.win.low
  have h2 := h.win.high
  obtain ⟨m, hm⟩ : ∃ m, n % k = m := ⟨_, rfl⟩
  have hmk : m < 16 := by have := Nat.mod_lt n (show 0 < k by omega); omega
  rw [hm] at hx
  have c0 := h.c.c0
  have cs := h.c.cs hx
  rw [Slot.val, hq] at cs
  replace cs : w.cell? ⟨p, 3 + m, none⟩ = some (.pointer (some ⟨q, 0, none⟩)) := cs
  have HS := Lib.hid (slot_in h.win hn hin hm)
  have HM := Lib.hid (rmade_any c0)
  have HF := Lib.hid hf
  clear hf h h1 h2 hx hin hn hm hq
  go_enter Tryz.func66, Tryz.ntmps66
  go_wp2_with fail
  refine HM.out.mono ?_
  rintro e w1 ⟨rfl, rfl⟩
  go_wp2_with fail
  refine HS.out.mono ?_
  rintro e w1 ⟨rfl, rfl⟩
  go_wp2_with fail
  refine HF.out.mono ?_
  rintro e w1 ⟨a, c, rfl, hQ⟩
  have HQ := Lib.hid hQ
  clear hQ
  go_wp2_with fail
  go_ret2
  exact ⟨a, c, rfl, HQ.out⟩
theorem ask_int_out (h : RelA w F p g s k b L wb S) (n : Nat) (hn : n < 18446744073709551616) (hin : winIn b k n = false) :
    Calls Tryz.prog 66 #[.pointer (some ⟨p, 0, none⟩), .int .u64 (n : Int), .func (.func 67) #[] #[]] w fun e w' => e = .returned (.tuple #[.int .i64 0, .int .i64 23]) ∧ w' = w := by
  have c0 := h.c.c0
  have HS := Lib.hid (slot_no h.win hn hin)
  have HM := Lib.hid (rmade_any c0)
  clear h hin hn
  go_enter Tryz.func66, Tryz.ntmps66
  go_wp2_with fail
  refine HM.out.mono ?_
  rintro e w1 ⟨rfl, rfl⟩
  go_wp2_with fail
  refine HS.out.mono ?_
  rintro e w1 ⟨rfl, rfl⟩
  go_wp2_with fail
  go_ret2
  exact ⟨rfl, rfl⟩
theorem ask_syms_in (h : RelA w F p g s k b L wb S) (n : Nat) (hn : n < 18446744073709551616) (hin : winIn b k n = true) {x : Slot} {q : Nat} (hx : S[n % k]? = some x) (hq : x.p = some q) {Q : Value → Value → World → Prop}
    (hf : Calls Tryz.prog 108 #[.pointer (some ⟨q, 0, none⟩)] w fun e w' => ∃ a c, e = .returned (.tuple #[a, c]) ∧ Q a c w') :
    Calls Tryz.prog 107 #[.pointer (some ⟨p, 0, none⟩), .int .u64 (n : Int), .func (.func 108) #[] #[]] w fun e w' => ∃ a c, e = .returned (.tuple #[a, c]) ∧ Q a c w' := by
  have h1 := h.win.low
  have h2 := h.win.high
  obtain ⟨m, hm⟩ : ∃ m, n % k = m := ⟨_, rfl⟩
  have hmk : m < 16 := by have := Nat.mod_lt n (show 0 < k by omega); omega
  rw [hm] at hx
  have c0 := h.c.c0
  have cs := h.c.cs hx
  rw [Slot.val, hq] at cs
  replace cs : w.cell? ⟨p, 3 + m, none⟩ = some (.pointer (some ⟨q, 0, none⟩)) := cs
  have HS := Lib.hid (slot_in h.win hn hin hm)
  have HM := Lib.hid (rmade_any c0)
  have HF := Lib.hid hf
  clear hf h h1 h2 hx hin hn hm hq
  go_enter Tryz.func107, Tryz.ntmps107
  go_wp2_with fail
  refine HM.out.mono ?_
  rintro e w1 ⟨rfl, rfl⟩
  go_wp2_with fail
  refine HS.out.mono ?_
  rintro e w1 ⟨rfl, rfl⟩
  go_wp2_with fail
  refine HF.out.mono ?_
  rintro e w1 ⟨a, c, rfl, hQ⟩
  have HQ := Lib.hid hQ
  clear hQ
  go_wp2_with fail
  go_ret2
  exact ⟨a, c, rfl, HQ.out⟩
theorem ask_syms_out (h : RelA w F p g s k b L wb S) (n : Nat) (hn : n < 18446744073709551616) (hin : winIn b k n = false) :
    Calls Tryz.prog 107 #[.pointer (some ⟨p, 0, none⟩), .int .u64 (n : Int), .func (.func 108) #[] #[]] w fun e w' => e = .returned (.tuple #[.slice none 0 0, .int .i64 23]) ∧ w' = w := by
  have c0 := h.c.c0
  have HS := Lib.hid (slot_no h.win hn hin)
  have HM := Lib.hid (rmade_any c0)
  clear h hin hn
  go_enter Tryz.func107, Tryz.ntmps107
  go_wp2_with fail
  refine HM.out.mono ?_
  rintro e w1 ⟨rfl, rfl⟩
  go_wp2_with fail
  refine HS.out.mono ?_
  rintro e w1 ⟨rfl, rfl⟩
  go_wp2_with fail
  go_ret2
  exact ⟨rfl, rfl⟩
/-- A row told: both of its sides new. -/
def NewRow (w : World) (cs ps : List Nat) (er : Int) (e : Ending) (w' : World) : Prop :=
  ∃ A2 n2 c2 A3 n3 c3, e = .returned (.tuple #[.agg #[.slice A2 n2 c2, .slice A3 n3 c3], .int .i64 er]) ∧ Own w' w.heap.size 5 A2 n2 c2 cs ∧ Own w' w.heap.size 5 A3 n3 c3 ps ∧ Keep w w'
theorem NewRow.lower {w w0 w' : World} {cs ps : List Nat} {er : Int} {e : Ending} (h : NewRow w cs ps er e w') (k : Keep w0 w) : NewRow w0 cs ps er e w' := by
  obtain ⟨A2, n2, c2, A3, n3, c3, e1, e2, e3, e4⟩ := h
  exact ⟨A2, n2, c2, A3, n3, c3, e1, e2.lower k.size, e3.lower k.size, k.trans e4⟩
end
end Go.Proofs.YtgelalbmhllccaaGreat
