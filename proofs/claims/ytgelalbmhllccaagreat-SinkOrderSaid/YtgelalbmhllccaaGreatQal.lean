/- Each call of both relays in one contract, whatever it tells. -/
import Derived.Test.YtgelalbmhllccaaGreatQak
import Derived.Test.YtgelalbmhllccaaGreatQaa
import Derived.RangeFuncNested
import Derived.RangeFuncBound
import Derived.RangeFuncCalls
import Derived.RangeFuncLeaves
import Derived.Shelf.Abstract
import Derived.Shelf.RegionOpen
import Derived.OwnWalkIn
import Derived.TacticsInMore
import Derived.LoopNIn
import Derived.LoopIn
import Derived.Test.YtgelalbmhllccaaGreatQab
import Derived.Test.YtgelalbmhllccaaGreatQad
import Derived.BigQuiet
import Derived.OneCell
import Derived.Test.YtgelalbmhllccaaGreatQae
import Derived.Defers
import Derived.StillTailTactics
import Derived.Outline
import Derived.RegionTactic
import Derived.ChangeAlike
namespace Go.Proofs.YtgelalbmhllccaaGreat
open Go.RowKit Lin
set_option linter.unusedVariables false
set_option linter.unusedSimpArgs false
section
variable {w w' : World} {F H : Nat → Prop} {p g s k b : Nat} {L : Nat → List (List Nat)}
def yTakeT (g s k b : Nat) (L : Nat → List (List Nat)) (n na nb : Nat) (v : List Nat) : Bool := if winIn b k n = true ∧ na = g ∧ nb = s then !decide (inB g s (L n) v) else false
def yTakeE (g s k b n na nb : Nat) : Int := if winIn b k n = true then (if na = g ∧ nb = s then 0 else 21) else 23
def yTakeL (g s k b : Nat) (L : Nat → List (List Nat)) (n na nb : Nat) (v : List Nat) : Nat → List (List Nat) := if winIn b k n = true ∧ na = g ∧ nb = s then upd L n (insB g s (L n) v) else L
theorem rl_take_all (h : RelR w F p g s k b L) (n : Nat) (hn : n < 18446744073709551616) (B1 B2 na nb c1 c2 : Nat) (A1 A2 : Option Addr) (xs ys : List Nat) (hc1 : na ≤ c1) (hc2 : nb ≤ c2) (h1 : Bytes w B1 A1 na xs) (h2 : Bytes w B2 A2 nb ys) (hB1 : B1 ≤ w.heap.size) (hB2 : B2 ≤ w.heap.size) :
    Calls Tryz.prog 11 #[.pointer (some ⟨p, 0, none⟩), .int .u64 (n : Int), .agg #[.slice A1 na c1, .slice A2 nb c2]] w fun e w' => e = .returned (.tuple #[.bool (yTakeT g s k b L n na nb (xs ++ ys)), .int .i64 (yTakeE g s k b n na nb)]) ∧ ∃ F', RelR w' F' p g s k b (yTakeL g s k b L n na nb (xs ++ ys)) ∧ (∀ j, F' j → F j ∨ w.heap.size ≤ j) ∧ Turned F w w' := by
  cases hin : winIn b k n with
  | false =>
    refine (rl_take_out h n hn hin na nb c1 c2 A1 A2).mono ?_
    rintro e w1 ⟨rfl, k1⟩
    refine ⟨by simp [yTakeT, yTakeE, hin], F, ?_, fun j hj => Or.inl hj, Turned.of_keep k1⟩
    simp only [yTakeL, hin, Bool.false_eq_true, false_and, if_false]
    exact h.keep k1
  | true =>
    by_cases hd : na = g ∧ nb = s
    · obtain ⟨rfl, rfl⟩ := hd
      refine (rl_take_in h n hn hin B1 B2 c1 c2 A1 A2 xs ys hc1 hc2 h1 h2 hB1 hB2).mono ?_
      rintro e w1 ⟨rfl, F', r, f, t⟩
      refine ⟨by simp [yTakeT, yTakeE, hin], F', ?_, f, t⟩
      simp only [yTakeL, hin, and_self, if_true]
      exact r
    · refine (rl_take_dim h n hn hin na nb c1 c2 A1 A2 (by omega)).mono ?_
      rintro e w1 ⟨rfl, k1⟩
      refine ⟨by simp [yTakeT, yTakeE, hin, hd], F, ?_, fun j hj => Or.inl hj, Turned.of_keep k1⟩
      simp only [yTakeL, hin, true_and, hd, if_false]
      exact h.keep k1
def ySolveE (g k b : Nat) (L : Nat → List (List Nat)) (n : Nat) : Int := if winIn b k n = true then (if (L n).length = g then 0 else 24) else 23
def ySolveV (g k b : Nat) (L : Nat → List (List Nat)) (n : Nat) : List (List Nat) := if winIn b k n = true ∧ (L n).length = g then (L n).map (List.drop g) else []
theorem OwnRows.nilR (w : World) (base : Nat) : OwnRows w base 43 none 0 0 [] := World.ownsRow_nil w base _ 1
theorem rl_solve_all (h : RelR w F p g s k b L) (n : Nat) (hn : n < 18446744073709551616) :
    Calls Tryz.prog 71 #[.pointer (some ⟨p, 0, none⟩), .int .u64 (n : Int)] w fun e w' => ∃ A r c rs, e = .returned (.tuple #[.slice A r c, .int .i64 (ySolveE g k b L n)]) ∧ OwnRows w' w.heap.size 43 A r c rs ∧ (∀ x ∈ rs, Own w' w.heap.size 5 x.A x.n x.c x.xs) ∧ rowsXs rs = ySolveV g k b L n ∧ Keep w w' := by
  cases hin : winIn b k n with
  | false =>
    refine (rl_solve_out h n hn hin).mono ?_
    rintro e w1 ⟨rfl, rfl⟩
    exact ⟨none, 0, 0, [], by simp [ySolveE, hin], OwnRows.nilR _ _, fun x hx => by simp at hx, by simp [ySolveV, hin, rowsXs], Keep.refl _⟩
  | true =>
    by_cases h0 : (L n).length = g
    · refine (rl_solve_in h n hn hin h0).mono ?_
      rintro e w1 ⟨A, c, rs, rfl, o1, o2, o3, k1, -⟩
      exact ⟨A, g, c, rs, by simp [ySolveE, hin, h0], o1, o2, by rw [o3, ySolveV, if_pos ⟨hin, h0⟩], k1⟩
    · refine (rl_solve_low h n hn hin h0).mono ?_
      rintro e w1 ⟨rfl, k1⟩
      exact ⟨none, 0, 0, [], by simp [ySolveE, hin, h0], OwnRows.nilR _ _, fun x hx => by simp at hx, by simp [ySolveV, h0, rowsXs], k1⟩
def yMoveE (c : Nat) : Int := if c ≤ topN then 0 else 1
def yMoveB (b c : Nat) : Nat := if c ≤ topN then c else b
def yMoveM (k c : Nat) (L : Nat → List (List Nat)) : Nat → List (List Nat) := if c ≤ topN then moveL c k L else L
theorem rl_move_all (h : RelR w F p g s k b L) (c : Nat) :
    Calls Tryz.prog 17 #[.pointer (some ⟨p, 0, none⟩), .int .u64 (c : Int)] w fun e w' => e = .returned (.int .i64 (yMoveE c)) ∧ ∃ F', RelR w' F' p g s k (yMoveB b c) (yMoveM k c L) ∧ (∀ q, F' q → F q ∨ w.heap.size ≤ q) ∧ Turned F w w' := by
  by_cases hc : c ≤ topN
  · rw [yMoveE, yMoveB, yMoveM, if_pos hc, if_pos hc, if_pos hc]
    exact rl_move_in h c hc
  · rw [yMoveE, yMoveB, yMoveM, if_neg hc, if_neg hc, if_neg hc]
    refine (rl_move_out h c (by omega)).mono ?_
    rintro e w1 ⟨rfl, k1⟩
    exact ⟨rfl, F, h.keep k1, fun j hj => Or.inl hj, Turned.of_keep k1⟩
end
end Go.Proofs.YtgelalbmhllccaaGreat
/- A range over a function that keeps state of its own: what the walk owes. -/
namespace Go.Proofs.YtgelalbmhllccaaGreat
open Go.RowKit
set_option linter.unusedVariables false
section
variable {F : Fence} {n : Nat} {P : Program}
/-- An iterator that hands things to yield: I0 holds where it begins, I1 where it hands something on, I2 where the round is over and goes on, I3 where it ends. -/
def HandsP {α : Type} (F : Fence) (n : Nat) (P : Program) (gf : FuncId) (bd lb : Array Value) (encs : α → Array Value) (B : Nat) (I0 I3 : World → Prop) (I1 I2 : α → World → Prop) : Prop :=
  ∀ (l : Nat) (X Ix : World → Prop) (W : World), (∀ W1 W2, X W1 → KeepsFrom B W1 W2 → X W2) →
    (∀ x W1, I1 x W1 → X W1 → YieldAt F (n - 1) P l (encs x) W1 fun e W' => (e = .returned (.bool true) ∧ I2 x W' ∧ X W') ∨ (e = .returned (.bool false) ∧ Ix W')) →
    I0 W → X W → CallsIn F n P gf (bd ++ #[.func (.yield l) #[] #[]] ++ lb) W fun e W' => (∃ v, e = .returned v) ∧ ((I3 W' ∧ X W') ∨ Ix W')
/-- What a body owes. -/
def postP {α : Type} (B : Nat) (I2 : α → World → Prop) (Ix : Code → World → Prop) (x : α) (W : World) : Exit → Act → World → Prop
  | .normal, _, W' => KeepsFrom B W W' ∧ I2 x W'
  | .ret, _, W' => KeepsFrom B W W' ∧ Ix .ret W'
  | .exit id, _, W' => KeepsFrom B W W' ∧ Ix (.exit id) W'
  | .goto t, _, W' => KeepsFrom B W W' ∧ Ix (.goto t) W'
  | .panic _, _, _ => False
  | .outgrown, _, _ => False
/-- What abides the turn of the loop's own blocks. -/
def Abides (B : Nat) (I : World → Prop) : Prop := ∀ (W : World) (k : Nat) (o o' : Obj), I W → B ≤ k → W.heap[k]? = some o → o.isCells = false → I (W.putObj k o')
/-- The statement. -/
theorem wpIn_range_phases {α : Type} {g : Operand} {ps : Array Tmp} {assign body : Code} {Q : Exit → Act → World → Prop} {a : Act} {w : World}
    (hro : F.round = none) (hn : 1 ≤ n) {gf : FuncId} {bd lb : Array Value} (hg : a.eval g = .func (.func gf) bd lb) (hF : F.fn gf) (eg : ∀ args w, (callFunc gf args).run P w = .ok (.enter gf args) w)
    {encs : α → Array Value} {I0 I3 : World → Prop} {I1 I2 : α → World → Prop} (hseq : HandsP F (n - 1) P gf bd lb encs w.heap.size I0 I3 I1 I2) (hps : ∀ x, (encs x).size = ps.size)
    (Ix : Code → World → Prop) (h0 : ∀ V, Keep w V → I0 V) (h1 : ∀ x, Abides w.heap.size (I1 x)) (h2 : ∀ x, Abides w.heap.size (I2 x)) (h3 : Abides w.heap.size I3) (hx : ∀ c, Abides w.heap.size (Ix c)) (b : α → Act)
    (hassign : ∀ (l : Nat) (x : α) (W : World) (K : Act → World → Prop), K (b x) W →
      assign.wpIn (F.inRound l) (n - 1 - 1) P (Exit.then K (fun _ _ _ => False)) { tmps := (ps.zip (encs x)).foldl (fun t (p, v) => t.setIfInBounds p v) a.tmps, defers := [] } W)
    (hbody : ∀ (l : Nat) (x : α) (W : World), I1 x W → w.heap.size ≤ W.heap.size → body.wpIn (F.inRound l) (n - 1 - 1) P (postP w.heap.size I2 Ix x W) (b x) W)
    (hdone : ∀ (D : Nat) (W : World), w.heap.size ≤ D → I3 W → W.heap[D]? = some (.deferred (some [])) → Q .normal { a with defers := { target := .collected D, args := #[] } :: a.defers } W)
    (hstop : ∀ (D : Nat) (c : Code) (W : World), w.heap.size ≤ D → Ix c W → W.heap[D]? = some (.deferred (some [])) → c.wpIn F n P Q { a with defers := { target := .collected D, args := #[] } :: a.defers } W) :
    (Code.rangeFunc g ps assign body).wpIn F n P Q a w := by
  refine wpIn_rangeFunc fun fn hfn => ?_
  rw [hro]
  obtain ⟨rec, hrec⟩ : ∃ rec : LoopState → Option Code → Loop, rec = fun st pe => { state := st, pending := pe, fn, tmps := a.tmps, params := ps, assign, body, defers := w.heap.size } := ⟨_, rfl⟩
  obtain ⟨X, hX⟩ : ∃ X : World → Prop, X = fun W => W.heap[w.heap.size + 1]? = some (.loop (rec .ready none)) ∧ W.heap[w.heap.size]? = some (.deferred (some [])) := ⟨_, rfl⟩
  obtain ⟨Y, hY⟩ : ∃ Y : World → Prop, Y = fun W => ∃ c, Ix c W ∧ W.heap[w.heap.size + 1]? = some (.loop (rec .done (some c))) ∧ W.heap[w.heap.size]? = some (.deferred (some [])) := ⟨_, rfl⟩
  obtain ⟨V, hV⟩ : ∃ V, (w.alloc (.deferred (some []))).alloc (.loop (rec .ready none)) = V := ⟨_, rfl⟩
  refine ⟨w.heap.size + 1, [{ target := .collected w.heap.size, args := #[] }], V, { target := .fn (.func gf) lb, args := bd ++ #[.func (.yield (w.heap.size + 1)) #[] #[]] }, V, gf, bd ++ #[.func (.yield (w.heap.size + 1)) #[] #[]] ++ lb, V, ?_, ?_, ?_, ?_, fun _ => hn, ?_⟩
  · rw [← hV, hrec]
    exact run_enterLoop_outer _ _ _ _ _
  · simp only [resolve, hg]
    simp [go_sem]
  · intro f' hf'
    simp [Target.leads] at hf'
    subst hf'
    exact hF
  · simp [invoke, go_sem, eg]
  · have hk : Keep w V := by
      rw [← hV]
      exact Below.alloc (Below.alloc (Keep.refl w) (Nat.le_refl _) _) (by simp) _
    have hz : X V := by
      rw [hX, ← hV]
      refine ⟨?_, ?_⟩
      · have := World.alloc_heap_new (w.alloc (.deferred (some []))) (.loop (rec .ready none))
        rw [World.size_alloc] at this
        exact this
      · exact (Below.heap_alloc _ _ _ (by simp)).trans (World.alloc_heap_new w _)
    refine (hseq (w.heap.size + 1) X Y _ (fun W1 W2 h k => ?_) ?_ (h0 V hk) hz).mono ?_
    · rw [hX] at h ⊢
      exact ⟨k.same _ _ (by omega) h.1 rfl, k.same _ _ (Nat.le_refl _) h.2 rfl⟩
    · intro x W hi hXW
      rw [hX] at hXW
      obtain ⟨hl, hd⟩ := hXW
      have hlt : w.heap.size + 1 < W.heap.size := (Array.getElem?_eq_some_iff.1 hl).1
      have hy := run_yield (P := P) (args := encs x) hl (by rw [hrec]; exact hps x)
      rw [hrec] at hy
      refine ⟨fn, _, assign, body, hy, roundIn_of_wpIn hfn (hassign _ x W _ ?_)⟩
      clear hy
      refine ⟨_, run_beginRound hl (by rw [hrec]), ?_⟩
      have hl2 : (W.putObj (w.heap.size + 1) (.loop { rec .ready none with state := .busy })).heap[w.heap.size + 1]? = some (.loop { rec .ready none with state := .busy }) := World.putObj_heap_same hlt
      have hd2 : (W.putObj (w.heap.size + 1) (.loop { rec .ready none with state := .busy })).heap[w.heap.size]? = some (.deferred (some [])) := (World.putObj_heap_other (by omega)).trans hd
      refine wpIn_mono (hbody _ x _ (h1 x _ _ _ _ hi (by omega) hl rfl) (by simp; omega)) ?_
      have fin : ∀ (jump : Option Code) (W3 : World), KeepsFrom w.heap.size (W.putObj (w.heap.size + 1) (.loop { rec .ready none with state := .busy })) W3 →
          (Instr.endRound (w.heap.size + 1) jump).run P W3 = .ok (.bool jump.isNone) (W3.putObj (w.heap.size + 1) (.loop (rec (if jump.isNone then .ready else .done) jump))) ∧
          W3.heap[w.heap.size + 1]? = some (.loop { rec .ready none with state := .busy }) ∧
          (W3.putObj (w.heap.size + 1) (.loop (rec (if jump.isNone then .ready else .done) jump))).heap[w.heap.size + 1]? = some (.loop (rec (if jump.isNone then .ready else .done) jump)) ∧
          (W3.putObj (w.heap.size + 1) (.loop (rec (if jump.isNone then .ready else .done) jump))).heap[w.heap.size]? = some (.deferred (some [])) := fun jump W3 hk3 => by
        have hl3 := hk3.same _ _ (by omega) hl2 rfl
        have := run_endRound (P := P) jump hl3
        rw [hrec] at this ⊢
        exact ⟨this, by rw [hrec] at hl3; exact hl3, World.putObj_heap_same (Array.getElem?_eq_some_iff.1 hl3).1, (World.putObj_heap_other (by omega)).trans (hk3.same _ _ (Nat.le_refl _) hd2 rfl)⟩
      rintro e a3 W3 hp
      cases e with
      | normal =>
        obtain ⟨hk3, hi3⟩ := hp
        obtain ⟨hr, hl3, hl4, hk4⟩ := fin none W3 hk3
        exact ⟨_, _, hr, .inl ⟨rfl, h2 x _ _ _ _ hi3 (by omega) hl3 rfl, by rw [hX]; exact ⟨hl4, hk4⟩⟩⟩
      | ret =>
        obtain ⟨hk3, hi3⟩ := hp
        obtain ⟨hr, hl3, hl4, hk4⟩ := fin (some .ret) W3 hk3
        exact ⟨_, _, hr, .inr ⟨rfl, by rw [hY]; exact ⟨.ret, hx _ _ _ _ _ hi3 (by omega) hl3 rfl, hl4, hk4⟩⟩⟩
      | exit id =>
        obtain ⟨hk3, hi3⟩ := hp
        obtain ⟨hr, hl3, hl4, hk4⟩ := fin (some (.exit id)) W3 hk3
        exact ⟨_, _, hr, .inr ⟨rfl, by rw [hY]; exact ⟨.exit id, hx _ _ _ _ _ hi3 (by omega) hl3 rfl, hl4, hk4⟩⟩⟩
      | goto t =>
        obtain ⟨hk3, hi3⟩ := hp
        obtain ⟨hr, hl3, hl4, hk4⟩ := fin (some (.goto t)) W3 hk3
        exact ⟨_, _, hr, .inr ⟨rfl, by rw [hY]; exact ⟨.goto t, hx _ _ _ _ _ hi3 (by omega) hl3 rfl, hl4, hk4⟩⟩⟩
      | panic ch => exact hp.elim
      | outgrown => exact hp.elim
    · rintro e W2 ⟨⟨v, rfl⟩, h | h⟩
      · rw [hX] at h
        obtain ⟨hi, hl, hd⟩ := h
        have he := run_endLoop (P := P) hl (by rw [hrec]; simp)
        rw [hrec] at he
        exact ⟨none, _, he, hdone _ _ (Nat.le_refl _) (h3 _ _ _ _ hi (by omega) hl rfl) ((World.putObj_heap_other (by omega)).trans hd)⟩
      · rw [hY] at h
        obtain ⟨c, hi, hl, hd⟩ := h
        have he := run_endLoop (P := P) hl (by rw [hrec]; simp)
        rw [hrec] at he
        exact ⟨some c, _, he, hstop _ c _ (Nat.le_refl _) (hx _ _ _ _ _ hi (by omega) hl rfl) ((World.putObj_heap_other (by omega)).trans hd)⟩
end
end Go.Proofs.YtgelalbmhllccaaGreat
/- The document's own answers of layer 9: room. -/
namespace Go.Proofs.YtgelalbmhllccaaGreat
open Go.RowKit
set_option linter.unusedVariables false
set_option linter.unusedSimpArgs false
theorem MayG.nat {g s : Int} (h : MayG g s) : ∃ G S P : Nat, g = G ∧ s = S ∧ 1 ≤ G ∧ G ≤ 255 ∧ 1 ≤ S ∧ S ≤ 65535 ∧ G * S = P ∧ 5 ≤ P ∧ P ≤ 16711425 ∧ (G : Int) * (S : Int) = (P : Int) := by
  obtain ⟨h1, h2, h3, h4, h5⟩ := h
  obtain ⟨G, rfl⟩ := Int.eq_ofNat_of_zero_le (show 0 ≤ g by omega)
  obtain ⟨S, rfl⟩ := Int.eq_ofNat_of_zero_le (show 0 ≤ s by omega)
  have e : (G : Int) * (S : Int) = ((G * S : Nat) : Int) := by simp
  have hm : G * S ≤ 255 * 65535 := Nat.mul_le_mul (by omega) (by omega)
  refine ⟨G, S, G * S, rfl, rfl, by omega, by omega, by omega, by omega, rfl, ?_, by omega, e⟩
  rw [e] at h5; omega
end Go.Proofs.YtgelalbmhllccaaGreat
/- The document's own answers of layer 9: symbols of a chunk. -/
namespace Go.Proofs.YtgelalbmhllccaaGreat
open Go.RowKit
set_option linter.unusedVariables false
set_option linter.unusedSimpArgs false
end Go.Proofs.YtgelalbmhllccaaGreat
/- The document's own Lay of layer 9. -/
namespace Go.Proofs.YtgelalbmhllccaaGreat
open Go.RowKit
set_option linter.unusedVariables false
set_option linter.unusedSimpArgs false
theorem run_piece (f t n c : Nat) (A : Option Addr) (h1 : f ≤ t) (h2 : t ≤ c) (w : World) :
    (Instr.slice 43 (.slice A n c) (some (.int .i64 (f : Int))) (some (.int .i64 (t : Int))) none).run Tryz.prog w = .ok (.slice (dropA A c f) (t - f) (c - f)) w := by
  have ht : Tryz.prog.underlying 43 = some (.slice (Tryz.prog.elem 43)) := by kernel_rfl
  obtain ⟨i0, hi0, hz0, hz1, hz2⟩ := info_parts info5
  have he : Tryz.prog.elem 43 = 5 := by kernel_rfl
  rw [run_slice_lh (P := Tryz.prog) (w := w) 43 A n c ht .i64 .i64 f t (by omega) (by omega) (by omega), he]
  simp [sizeOf, typeInfo, hi0, hz1, sliced, dropA]
theorem Bytes.piece {w : World} {B n c f t : Nat} {A : Option Addr} {xs : List Nat} (h : Bytes w B A n xs) (h1 : f ≤ t) (h2 : t ≤ n) (hc : n ≤ c) : Bytes w B (dropA A c f) (t - f) (pieceN xs f t) := by
  refine ⟨piece_len h1 (by rw [h.1]; exact h2), fun x hx => h.2.1 x (List.mem_of_mem_drop (List.mem_of_mem_take hx)), fun hp => ?_⟩
  obtain ⟨b, off, rfl, hb, hcell⟩ := h.2.2 (by omega)
  refine ⟨b, off + f, dropA_some b off c f (by omega), hb, fun i hi => ?_⟩
  rw [Nat.add_assoc, hcell (f + i) (by omega)]
  simp [pieceN, List.getD_eq_getElem?_getD, List.getElem?_take, List.getElem?_drop, hi]
end Go.Proofs.YtgelalbmhllccaaGreat
/- The document's own Take of layer 9. -/
namespace Go.Proofs.YtgelalbmhllccaaGreat
open Go.RowKit
set_option linter.unusedVariables false
set_option linter.unusedSimpArgs false
theorem own_le {w : World} {base n c : Nat} {e : TypeId} {A : Option Addr} {xs : List Nat} (h : Own w base e A n c xs) : n ≤ c := by
  rcases h.1.2 with ⟨hv, h0⟩ | ⟨g, cap, cur, hv, _, _, hle, _⟩
  · omega
  · injection hv with _ _ h3; omega
theorem NewPair.none_at {w w' : World} (k : Keep w w') (er : Int) : NewPair w [] er (.returned (.tuple #[.slice none 0 0, .int .i64 er])) w' := ⟨none, 0, 0, rfl, Own.none_ _ _ _, k⟩
end Go.Proofs.YtgelalbmhllccaaGreat
/- The document's own Chunks of layer 9. -/
namespace Go.Proofs.YtgelalbmhllccaaGreat
open Go.RowKit
set_option linter.unusedVariables false
set_option linter.unusedSimpArgs false
/-- A slice of n ints at A, below block B. -/
def IntsAt (w : World) (B : Nat) (A : Option Addr) (n : Nat) (l : List Int) : Prop :=
  l.length = n ∧ (0 < n → ∃ b off, A = some ⟨b, off, none⟩ ∧ b < B ∧ ∀ (i : Nat) (z : Int), l[i]? = some z → w.cell? ⟨b, off + i, none⟩ = some (.int .i64 z))
theorem IntsAt.keep {w w' : World} {B n : Nat} {A : Option Addr} {l : List Int} (h : IntsAt w B A n l) (hB : B ≤ w.heap.size) (k : Keep w w') : IntsAt w' B A n l :=
  ⟨h.1, fun hn => by
    obtain ⟨b, off, e, hb, hc⟩ := h.2 hn
    exact ⟨b, off, e, hb, fun i z hi => ((Below.mono k hB).cell (p := ⟨b, off + i, none⟩) hb).trans (hc i z hi)⟩⟩
/-- Cuts that rise, none above n. -/
def GoodC (n : Nat) (l : List Int) (k : Nat) : Prop := ∀ i z, i < k → l[i]? = some z → 0 ≤ z ∧ z ≤ (n : Int) ∧ ∀ y, 0 < i → l[i - 1]? = some y → y ≤ z
def NewChunks (w : World) (M : List (List Nat)) (O : List Nat) (er : Int) (e : Ending) (w' : World) : Prop :=
  ∃ A n c A' n' c', e = .returned (.tuple #[.slice A n c, .slice A' n' c', .int .i64 er]) ∧ (∃ rs, RowsIn w' (fun b => w.heap.size ≤ b ∧ b < w'.heap.size) A n rs ∧ n ≤ c ∧ rowsXs rs = M) ∧ Own w' w.heap.size 5 A' n' c' O ∧ Keep w w'
theorem NewChunks.nil {w w' : World} (k : Keep w w') (er : Int) : NewChunks w [] [] er (.returned (.tuple #[.slice none 0 0, .slice none 0 0, .int .i64 er])) w' := ⟨none, 0, 0, none, 0, 0, rfl, ⟨[], RowsIn.nothing _ _ _, Nat.le_refl _, rfl⟩, Own.none_ _ _ _, k⟩
end Go.Proofs.YtgelalbmhllccaaGreat
/- The landed pad: room; the closure that hands out pieces. -/
namespace Go.Proofs.YtgelalbmhllccaaGreat
open Go.RowKit
set_option linter.unusedVariables false
set_option linter.unusedSimpArgs false
theorem proom_in (G S P : Nat) (g1 : 1 ≤ G) (g2 : G ≤ 255) (s1 : 1 ≤ S) (s2 : S ≤ 65535) (hP : (G : Int) * (S : Int) = (P : Int)) (p1 : 5 ≤ P) (p2 : P ≤ 16711425) (w : World) :
    Calls Tryz.prog 31 #[.int .i64 (G : Int), .int .i64 (S : Int)] w fun e w' => e = .returned (.tuple #[.int .i64 ((P - 4 : Nat) : Int), .int .i64 0]) ∧ w = w' := by
  have d1 : decide ((G : Int) < 1) = false := decide_eq_false (by omega)
  have d2 : decide ((255 : Int) < (G : Int)) = false := decide_eq_false (by omega)
  have d3 : decide ((S : Int) < 1) = false := decide_eq_false (by omega)
  have d4 : decide ((65535 : Int) < (S : Int)) = false := decide_eq_false (by omega)
  have d5 : decide ((P : Int) ≤ 4) = false := decide_eq_false (by omega)
  have w1 : IntKind.i64.wrap (P : Int) = (P : Int) := IntWalk.i64_in _ (by omega)
  have w2 : IntKind.i64.wrap ((P : Int) - 4) = ((P - 4 : Nat) : Int) := by rw [show (P : Int) - 4 = ((P - 4 : Nat) : Int) by omega]; exact IntWalk.i64_in _ (by omega)
  go_enter Tryz.func31, Tryz.ntmps31
  go_wp2_with fail
  go_ret2
  exact ⟨rfl, rfl⟩
theorem proom_out (g s : Int) (h : ¬ MayG g s) (w : World) :
    Calls Tryz.prog 31 #[.int .i64 g, .int .i64 s] w fun e w' => e = .returned (.tuple #[.int .i64 0, .int .i64 1]) ∧ w = w' := by
  have H := Lib.hid h
  by_cases h1 : g < 1
  · have d1 : decide (g < 1) = true := decide_eq_true h1
    clear h
    go_enter Tryz.func31, Tryz.ntmps31
    go_wp2_with fail
    go_ret2
    exact ⟨rfl, rfl⟩
  have d1 : decide (g < 1) = false := decide_eq_false h1
  by_cases h2 : 255 < g
  · have d2 : decide (255 < g) = true := decide_eq_true h2
    clear h
    go_enter Tryz.func31, Tryz.ntmps31
    go_wp2_with fail
    go_ret2
    exact ⟨rfl, rfl⟩
  have d2 : decide (255 < g) = false := decide_eq_false h2
  by_cases h3 : s < 1
  · have d3 : decide (s < 1) = true := decide_eq_true h3
    clear h
    go_enter Tryz.func31, Tryz.ntmps31
    go_wp2_with fail
    go_ret2
    exact ⟨rfl, rfl⟩
  have d3 : decide (s < 1) = false := decide_eq_false h3
  by_cases h4 : 65535 < s
  · have d4 : decide (65535 < s) = true := decide_eq_true h4
    clear h
    go_enter Tryz.func31, Tryz.ntmps31
    go_wp2_with fail
    go_ret2
    exact ⟨rfl, rfl⟩
  have d4 : decide (65535 < s) = false := decide_eq_false h4
  have h5 : g * s < 5 := by
    refine Classical.byContradiction fun h5 => h ⟨by omega, by omega, by omega, by omega, by omega⟩
  have h6 : 0 ≤ g * s := Int.mul_nonneg (by omega) (by omega)
  have w1 : IntKind.i64.wrap (g * s) = g * s := IntWalk.i64_in _ (by omega)
  have d5 : decide (g * s ≤ 4) = true := decide_eq_true (by omega)
  obtain ⟨p, hp⟩ : ∃ p, g * s = p := ⟨_, rfl⟩
  rw [hp] at h5 h6 w1 d5
  clear h
  go_enter Tryz.func31, Tryz.ntmps31
  go_wp2_with fail
  go_ret2
  exact ⟨rfl, rfl⟩
/-- Three indices: a piece with nothing behind it. -/
theorem run_three (n m c : Nat) (A : Option Addr) (h : n ≤ c) (w : World) :
    (Instr.slice 43 (.slice A m c) none (some (.int .i64 (n : Int))) (some (.int .i64 (n : Int)))).run Tryz.prog w = .ok (.slice A n n) w := by
  have ht : Tryz.prog.underlying 43 = some (.slice (Tryz.prog.elem 43)) := by kernel_rfl
  obtain ⟨i0, hi0, hz0, hz1, hz2⟩ := info_parts info5
  have he : Tryz.prog.elem 43 = 5 := by kernel_rfl
  rw [run_slice_hm (P := Tryz.prog) (w := w) 43 A m c ht .i64 .i64 n n (by omega) (by omega) (by omega), he]
  have ha : A.map (fun x : Addr => x.add 0) = A := by
    cases A with
    | none => rfl
    | some a =>
      obtain ⟨b, off, spot⟩ := a
      simp [Addr.add]
  simp [sizeOf, typeInfo, hi0, hz1, sliced, ha]
set_option maxRecDepth 100000 in
theorem run_behind (n m c : Nat) (A : Option Addr) (h : n ≤ m) (w : World) :
    (Instr.slice 43 (.slice A m c) (some (.int .i64 (n : Int))) none none).run Tryz.prog w = .ok (.slice (dropA A c n) (m - n) (c - n)) w :=
  run_drop (t := 43) (by kernel_rfl) info5 m c n A h w
/-- What is to be handed out stands at gC. -/
def Cur (w : World) (gC m c : Nat) (A : Option Addr) : Prop := w.heap[gC]? = some (.cells #[.slice A m c] 43 (0, 0))
theorem Cur.cell {w : World} {gC m c : Nat} {A : Option Addr} (h : Cur w gC m c A) : w.cell? ⟨gC, 0, none⟩ = some (.slice A m c) := cell_of_one h
theorem Cur.free {w : World} {gC m c : Nat} {A : Option Addr} (h : Cur w gC m c A) : w.frozen? ⟨gC, 0, none⟩ = false := free_of_one h
theorem Cur.put {w : World} {gC m c m' c' : Nat} {A A' : Option Addr} (h : Cur w gC m c A) : Cur (w.setCell ⟨gC, 0, none⟩ (.slice A' m' c')) gC m' c' A' := one_setCell h
theorem handing_any (A : Option Addr) (m c : Nat) (w : World) : Calls Tryz.prog 137 #[.slice A m c] w fun e w' => e = .returned (.func (.func 154) #[] #[.pointer (some ⟨w.heap.size, 0, none⟩)]) ∧ w' = w.alloc (.cells #[.slice A m c] 43) := by
  have hmf : ∀ (fn : Fn) (first cap : Array Value) (w : World), (Instr.makeFunc fn first cap).run Tryz.prog w = .ok (.func fn first cap) w := fun _ _ _ _ => rfl
  go_enter Tryz.func137, Tryz.ntmps137
  go_wp2_with fail
  go_ret
  exact ⟨rfl, rfl⟩
theorem hand_any (gC n m c : Nat) (A : Option Addr) (hn : n ≤ m) (hm : m ≤ c) (w : World) (h : Cur w gC m c A) :
    Calls Tryz.prog 154 #[.int .i64 (n : Int), .pointer (some ⟨gC, 0, none⟩)] w fun e w' => e = .returned (.slice A n n) ∧ w' = w.setCell ⟨gC, 0, none⟩ (.slice (dropA A c n) (m - n) (c - n)) := by
  have c0 := h.cell
  have f0 := h.free
  have s1 := run_three n m c A (by omega)
  have s2 := run_behind n m c A hn
  clear h
  go_enter Tryz.func154, Tryz.ntmps154
  go_wp2_with fail
  go_ret
  exact ⟨rfl, rfl⟩
end Go.Proofs.YtgelalbmhllccaaGreat
/- What the contracts of layer 3 lean on. -/
namespace Go.Proofs.YtgelalbmhllccaaGreat
open Go.RowKit
/-- What laying a number answers. -/
def laysOf (xs : List Nat) (v s : Nat) : List Nat := if v < 256 ^ s then xs ++ formN s v else []
def laysErr (v s : Nat) : Int := if v < 256 ^ s then 0 else 3
/-- The address of a slice cut at its head. -/
def cutA (A : Option Addr) (c s : Nat) : Option Addr := if c = s then A else A.map (·.add s)
theorem run_cut (n c s : Nat) (A : Option Addr) (hs : s ≤ n) (w : World) :
    (Instr.slice 43 (.slice A n c) (some (.int .i64 (s : Int))) none none).run Tryz.prog w = .ok (.slice (cutA A c s) (n - s) (c - s)) w := by
  have ht : Tryz.prog.underlying 43 = some (.slice (Tryz.prog.elem 43)) := by kernel_rfl
  obtain ⟨i0, hi0, hz0, hz1, hz2⟩ := info_parts info5
  have he : Tryz.prog.elem 43 = 5 := by kernel_rfl
  rw [run_slice_l (P := Tryz.prog) (w := w) 43 A n c ht .i64 s (by omega) (by omega), he]
  simp [sizeOf, typeInfo, hi0, hz1, sliced, cutA]
theorem Bytes.drop {w : World} {B n c s : Nat} {A : Option Addr} {xs : List Nat} (h : Bytes w B A n xs) (hc : n ≤ c) : Bytes w B (cutA A c s) (n - s) (xs.drop s) := by
  refine ⟨by rw [List.length_drop, h.1], fun x hx => h.2.1 x (List.mem_of_mem_drop hx), fun hp => ?_⟩
  obtain ⟨b, off, rfl, hb, hcell⟩ := h.2.2 (by omega)
  refine ⟨b, off + s, ?_, hb, fun i hi => ?_⟩
  · rw [cutA, if_neg (by omega)]
    simp only [Option.map_some, Addr.add]
    split <;> simp_all
  · rw [Nat.add_assoc, hcell (s + i) (by omega)]
    simp [List.getD_eq_getElem?_getD, List.getElem?_drop]
theorem valN_lt64 (L : List Nat) (s : Nat) (h : AllB L) (hs : s ≤ 8) : valN (L.take s) < 18446744073709551616 := by
  have h1 := valN_lt (L.take s) (h.take s)
  have h2 : 256 ^ (L.take s).length ≤ 256 ^ 8 := Nat.pow_le_pow_right (by decide) (by rw [List.length_take]; omega)
  exact Nat.lt_of_lt_of_le h1 h2
end Go.Proofs.YtgelalbmhllccaaGreat
/- The landed step of a reader, through its deferred closure. -/
namespace Go.Proofs.YtgelalbmhllccaaGreat
open Go.RowKit
theorem undo_none (a b c d : Addr) (u : FrameMode) (w : World) (h0 : w.cell? a = some (.int .i64 0)) :
    CallsD Tryz.prog 156 #[.pointer (some a), .pointer (some b), .pointer (some c), .pointer (some d)] u w fun e u' w' => u' = u ∧ (e = .returned (.tuple #[]) ∧ w = w') := by
  go_enter_d Tryz.func156, Tryz.ntmps156
  go_wp2
  go_end0
  exact ⟨rfl, rfl⟩
theorem grow_then {a b c : World} {row : Option Nat} (h : a.grownBy b row) (k : Keep b c) : a.grownBy c row :=
  ⟨k.os.trans h.os, k.tape.trans h.tape, k.output.trans h.output, Nat.le_trans h.size k.size, fun i hi hne => (k.block i (Nat.lt_of_lt_of_le hi h.size)).trans (h.block i hi hne)⟩
/-- The reader's block, its second field given anew. -/
theorem two_put (w : World) (g n c n' c' : Nat) (A A' : Option Addr) (h : w.heap[g]? = some (.cells #[.bool true, .slice A n c] 209 (0, 0))) :
    (w.setCell ⟨g, 1, none⟩ (.slice A' n' c')).heap[g]? = some (.cells #[.bool true, .slice A' n' c'] 209 (0, 0)) ∧ w.grownBy (w.setCell ⟨g, 1, none⟩ (.slice A' n' c')) (some g) :=
  ⟨by rw [heap_setCell_same w g 1 _ _ _ h]; rfl, ⟨rfl, rfl, rfl, by simp [World.setCell], fun k _ hk => heap_setCell_other _ _ _ _ fun e => hk (by rw [e])⟩⟩
set_option maxRecDepth 100000 in
theorem step_in (g n c s : Nat) (A : Option Addr) (hs : s ≤ n) (hn : n ≤ c) (w : World) (h : w.heap[g]? = some (.cells #[.bool true, .slice A n c] 209 (0, 0))) :
    Calls Tryz.prog 147 #[.pointer (some ⟨g, 0, none⟩), .int .i64 (s : Int)] w fun e w' => e = .returned (.tuple #[.slice A s c, .int .i64 0]) ∧ w'.heap[g]? = some (.cells #[.bool true, .slice (cutA A c s) (n - s) (c - s)] 209 (0, 0)) ∧ w.grownBy w' (some g) := by
  have hmf : ∀ (fn : Fn) (first cap : Array Value) (w : World), (Instr.makeFunc fn first cap).run Tryz.prog w = .ok (.func fn first cap) w := fun _ _ _ _ => rfl
  have hcut := fun w => run_cut n c s A hs w
  have c1 : w.cell? ⟨g, 1, none⟩ = some (.slice A n c) := by simp [World.cell?, h]
  have f1 : w.frozen? ⟨g, 1, none⟩ = false := by simp [World.frozen?, h]
  have hl := lt_of_block h
  have hl1 : g < w.heap.size + 1 := by omega
  have hl2 : g < w.heap.size + 1 + 1 := by omega
  have hl3 : g < w.heap.size + 1 + 1 + 1 := by omega
  have hl4 : g < w.heap.size + 1 + 1 + 1 + 1 := by omega
  have b1 : (s : Int) ≤ (n : Int) := by omega
  have b2 : min (s : Int) (n : Int) = (s : Int) := by omega
  have b3 : (0 : Int) ≤ (s : Int) := Int.natCast_nonneg _
  have b4 : (s : Int) ≤ (c : Int) := by omega
  have HH := Lib.hid h
  clear h
  go_enter_defers Tryz.func147, Tryz.ntmps147
  go_wp2_with fail
  go_region
  go_wp2_with fail
  have HW := Lib.hid (two_put w g n c (n - s) (c - s) A (cutA A c s) HH.out)
  refine leaves_cons (f := 156) (args := #[.pointer (some ⟨w.heap.size + 1 + 1, 0, none⟩), .pointer (some ⟨w.heap.size + 1 + 1 + 1, 0, none⟩), .pointer (some ⟨w.heap.size + 1, 0, none⟩), .pointer (some ⟨w.heap.size, 0, none⟩)]) (by simp) (by simp [go_sem]) ?_
  refine (undo_none _ _ _ _ .returning _ (by simp [go_sem])).mono ?_
  rintro e u' w'' ⟨rfl, rfl, rfl⟩
  have HK := Lib.hid (((((Keep.refl (w.setCell ⟨g, 1, none⟩ (.slice (cutA A c s) (n - s) (c - s)))).alloc #[.pointer (some ⟨g, 0, none⟩)] 177).alloc #[.slice A s c] 43).alloc #[.int .i64 0] 28).alloc #[.slice A n c] 43).drew
  refine ⟨.tuple #[.slice A s c, .int .i64 0], by simp [results, Tryz.results147, go_sem], rfl, ?_, ?_⟩
  · exact (HK.out.block g (lt_of_block HW.out.1)).trans HW.out.1
  · exact grow_then HW.out.2 HK.out
end Go.Proofs.YtgelalbmhllccaaGreat
/- Contracts of the landed code of layer 3. -/
namespace Go.Proofs.YtgelalbmhllccaaGreat
open Go.RowKit
/-- A reader at g with L left; F tells its blocks. -/
def ReadR (w : World) (F : Nat → Prop) (g : Nat) (L : List Nat) : Prop :=
  F g ∧ (∀ b, F b → b < w.heap.size) ∧ AllB L ∧ ∃ A c, w.heap[g]? = some (.cells #[.bool true, .slice A L.length c] 209 (0, 0)) ∧ (L.length ≤ c ∧ L.length ≤ 140737488355328) ∧ (0 < L.length → ∃ b off, A = some ⟨b, off, none⟩ ∧ F b ∧ b ≠ g ∧ ∀ i, i < L.length → w.cell? ⟨b, off + i, none⟩ = some (.int .u8 ((L.getD i 0 : Nat) : Int)))
theorem ReadR.at_ {w : World} {F : Nat → Prop} {g : Nat} {L : List Nat} (h : ReadR w F g L) : F g := h.1
theorem ReadR.lt {w : World} {F : Nat → Prop} {g b : Nat} {L : List Nat} (h : ReadR w F g L) (hb : F b) : b < w.heap.size := h.2.1 b hb
theorem ReadR.all {w : World} {F : Nat → Prop} {g : Nat} {L : List Nat} (h : ReadR w F g L) : AllB L := h.2.2.1
/-- What lies elsewhere may turn. -/
theorem ReadR.grown {w w' : World} {F : Nat → Prop} {g : Nat} {row : Option Nat} {L : List Nat} (h : ReadR w F g L) (k : w.grownBy w' row) (hn : ∀ b, row = some b → ¬ F b) : ReadR w' F g L := by
  obtain ⟨h1, h2, h3, A, c, h4, h5, h6⟩ := h
  have hb : ∀ b, F b → w'.heap[b]? = w.heap[b]? := fun b hb => k.block b (h2 b hb) fun e => hn b e.symm hb
  refine ⟨h1, fun b hb => Nat.lt_of_lt_of_le (h2 b hb) k.size, h3, A, c, by rw [hb g h1]; exact h4, h5, fun hp => ?_⟩
  obtain ⟨b, off, e, hf, hne, hc⟩ := h6 hp
  refine ⟨b, off, e, hf, hne, fun i hi => ?_⟩
  rw [← hc i hi]
  simp only [World.cell?, hb b hf]
theorem ReadR.keep {w w' : World} {F : Nat → Prop} {g : Nat} {L : List Nat} (h : ReadR w F g L) (k : Keep w w') : ReadR w' F g L := h.grown (row := none) ⟨k.os, k.tape, k.output, k.size, fun i hi _ => k.block i hi⟩ (fun b e => by cases e)
theorem size_yes (s : Int) (h1 : 1 ≤ s) (h8 : s ≤ 8) (w : World) : Calls Tryz.prog 146 #[.int .i64 s] w fun e w' => e = .returned (.bool true) ∧ w = w' := by
  go_enter Tryz.func146, Tryz.ntmps146
  go_wp2_with fail
  go_ret
  exact ⟨rfl, rfl⟩
theorem made_at (g : Nat) (b : Bool) (w : World) (h : w.cell? ⟨g, 0, none⟩ = some (.bool b)) : Calls Tryz.prog 145 #[.pointer (some ⟨g, 0, none⟩)] w fun e w' => e = .returned (.bool b) ∧ w = w' := by
  go_enter Tryz.func145, Tryz.ntmps145
  go_wp2_with fail
  go_ret
  exact ⟨rfl, rfl⟩
/-- A block of bytes, whole. -/
def Blk (w : World) (g : Nat) (t : TypeId) (xs : List Nat) : Prop := w.heap[g]? = some (.cells (u8s xs).toArray t (0, 0))
theorem Blk.cell {w : World} {g t i : Nat} {xs : List Nat} (h : Blk w g t xs) (hi : i < xs.length) : w.cell? ⟨g, i, none⟩ = some (.int .u8 ((xs.getD i 0 : Nat) : Int)) := by
  have h' : w.heap[g]? = some (.cells (u8s xs).toArray t (0, 0)) := h
  rw [cell_of_row w g i _ _ _ h', List.getElem?_toArray, u8s_get]
  simp [List.getD, hi]
theorem Blk.frozen {w : World} {g t : Nat} {xs : List Nat} (h : Blk w g t xs) (i : Nat) : w.frozen? ⟨g, i, none⟩ = false := by
  have h' : w.heap[g]? = some (.cells (u8s xs).toArray t (0, 0)) := h
  simp [World.frozen?, h']
theorem Blk.set {w : World} {g t i v : Nat} {xs : List Nat} (h : Blk w g t xs) : Blk (w.setCell ⟨g, i, none⟩ (.int .u8 (v : Int))) g t (xs.set i v) := by
  show _ = _
  rw [heap_setCell_same w g i _ _ _ h, ← u8s_set]
  simp
theorem Blk.bytes {w : World} {g t : Nat} {xs : List Nat} (h : Blk w g t xs) (ha : AllB xs) : Bytes w w.heap.size (some ⟨g, 0, none⟩) xs.length xs :=
  ⟨rfl, ha, fun _ => ⟨g, 0, rfl, lt_of_block h, fun i hi => by rw [Nat.zero_add]; exact h.cell hi⟩⟩
set_option maxRecDepth 100000 in
set_option maxHeartbeats 1000000 in
theorem wnum_in (B m ca v s : Nat) (A : Option Addr) (xs : List Nat) (w : World) (h : Bytes w B A m xs) (hB : B ≤ w.heap.size) (hm : m ≤ 140737488351232) (hs1 : 1 ≤ s) (hs8 : s ≤ 8) (hv : v < 18446744073709551616) :
    Calls Tryz.prog 155 #[.slice A m ca, .int .u64 v, .int .i64 s] w (NewPair w (laysOf xs v s) (laysErr v s)) := by
  have HH := Lib.hid h
  clear h
  go_enter Tryz.func155, Tryz.ntmps155
  go_wp2_with fail
  refine (size_yes s (by omega) (by omega) _).mono ?_
  rintro e w1 ⟨rfl, rfl⟩
  have h0 : Hid (Blk (w.alloc (.cells #[.int .u8 0, .int .u8 0, .int .u8 0, .int .u8 0, .int .u8 0, .int .u8 0, .int .u8 0, .int .u8 0] 218)) w.heap.size 218 (laidN s v 0 ++ List.replicate (8 - s) 0)) := by
    show _ = _
    rw [heap_alloc_new, laidN_zero, List.replicate_append_replicate, show s + (8 - s) = 8 by omega]
    rfl
  go_wp2_with fail
  go_loopw [1, 9] (fun nv i wr => ∃ (j : Nat), j ≤ s ∧ nv = .int .u64 (v / 256 ^ j : Nat) ∧ i = .int .i64 ((s : Int) - 1 - (j : Int)) ∧ Blk wr w.heap.size 218 (laidN s v j ++ List.replicate (8 - s) 0) ∧ Keep w wr) (fun _ i _ => (intOf i + 1).toNat)
  case atStart => exact ⟨0, by omega, by simp, by simp, h0.out, (Keep.refl w).alloc _ _⟩
  case round =>
    clear h0
    obtain ⟨j, hj, rfl, rfl, hblk, hkeep⟩ := hrel
    by_cases hlt : j < s
    · obtain ⟨t, ht⟩ : ∃ t, s - 1 - j = t := ⟨_, rfl⟩
      have e1 : (s : Int) - 1 - (j : Int) = (t : Int) := by omega
      obtain ⟨q, hq⟩ : ∃ q, v / 256 ^ j = q := ⟨_, rfl⟩
      obtain ⟨q', hq'⟩ : ∃ q', v / 256 ^ (j + 1) = q' := ⟨_, rfl⟩
      obtain ⟨d, hd⟩ : ∃ d, q % 256 = d := ⟨_, rfl⟩
      have d2 : d < 256 := by omega
      have e3 : (q : Int) % 256 = (d : Int) := by omega
      have e5 : (q : Int) / 256 = (q' : Int) := by
        have : q' = q / 256 := by rw [← hq', ← hq, Nat.pow_succ, Nat.div_div_eq_div_mul]
        omega
      have q64 : q < 18446744073709551616 := Nat.lt_of_le_of_lt (by rw [← hq]; exact Nat.div_le_self _ _) hv
      have hc := hblk.cell (i := t) (by rw [List.length_append, laidN_length, List.length_replicate]; omega)
      have hf := hblk.frozen t
      have hs := hblk.set (i := t) (v := d)
      rw [List.set_append_left _ _ (by rw [laidN_length]; omega), ← ht, ← hd, ← hq, laidN_set s v j hlt, hq, hd, ht] at hs
      have HS := Lib.hid hs
      have HK := Lib.hid (hkeep.setCell (a := ⟨w.heap.size, t, none⟩) (Nat.le_refl _) (.int .u8 (d : Int)))
      have HQ := Lib.hid hq'
      have HT := Lib.hid ht
      rw [hq]
      rw [e1]
      generalize (laidN s v j ++ List.replicate (8 - s) 0).getD t 0 = z at hc
      have x1 : (0 : Int) ≤ (t : Int) := Int.natCast_nonneg _
      have x3 : (t : Int) < 8 := by omega
      clear hs hblk hkeep hq hq' hd ht e1
      go_wp2_with fail
      go_roundw
      case rel => exact ⟨j + 1, by omega, by rw [HQ.out], by have := HT.out; congr 1; omega, HS.out, HK.out⟩
      case measure => simp [intOf]
    · obtain rfl : s = j := by omega
      rw [laidN_all] at hblk
      have e1 : (s : Int) - 1 - (s : Int) = -1 := by omega
      rw [e1]
      clear e1
      by_cases hz : v < 256 ^ s
      · have b3 : (((v / 256 ^ s : Nat) : Int) != 0) = false := by rw [Nat.div_eq_of_lt hz]; rfl
        have E1 : Hid (laysOf xs v s = xs ++ formN s v) := by show _ = _; rw [laysOf, if_pos hz]
        have E2 : Hid (laysErr v s = 0) := by show _ = _; rw [laysErr, if_pos hz]
        have hby := hblk.bytes ((formN_all s v).append (AllB.zeros _))
        have hby2 := hby.cut (m := s) (by rw [List.length_append, formN_length]; omega)
        rw [List.take_left' (formN_length s v)] at hby2
        have HR := Lib.hid (RowsUp.lit (w := wr) rfl 43 2 [⟨A, m, ca, xs⟩, ⟨some ⟨w.heap.size, 0, none⟩, s, 8, formN s v⟩] #[.slice A m ca, .slice (some ⟨w.heap.size, 0, none⟩) s 8] rfl rfl (fun r hr => by
          simp only [List.mem_cons, List.not_mem_nil, or_false] at hr
          rcases hr with rfl | rfl
          · exact (HH.out.keep hB hkeep).mono (Nat.le_trans hB hkeep.size)
          · exact hby2))
        have HK := Lib.hid hkeep
        generalize v / 256 ^ s = q at *
        have x1 : (s : Int) ≤ 8 := by omega
        clear hz hby hby2 hblk hkeep
        go_wp2_with fail
        refine (concat_any _ 2 _ _ _ _ HR.out (by simp) (by omega) (by simp [sizesN]; omega)).mono ?_
        rintro e w2 ⟨A2, n2, c2, rfl, o2, k2⟩
        have HO := Lib.hid (o2.lower (base' := w.heap.size) (by have := HK.out.size; simp; omega))
        have HK2 := Lib.hid ((HK.out.alloc _ _).trans k2)
        clear o2 k2
        go_wp2_with fail
        go_ret2
        rw [E1.out, E2.out]
        exact ⟨_, _, _, rfl, by simpa [joinN] using HO.out, HK2.out⟩
      · have b3 : (((v / 256 ^ s : Nat) : Int) != 0) = true := by
          have : 0 < v / 256 ^ s := Nat.div_pos (by omega) (Nat.pow_pos (by decide))
          rw [bne_iff_ne]; omega
        have E1 : Hid (laysOf xs v s = []) := by show _ = _; rw [laysOf, if_neg hz]
        have E2 : Hid (laysErr v s = 3) := by show _ = _; rw [laysErr, if_neg hz]
        have HK := Lib.hid hkeep
        generalize v / 256 ^ s = q at *
        clear hz hblk hkeep
        go_wp2_with fail
        go_ret2
        rw [E1.out, E2.out]
        exact ⟨none, 0, 0, rfl, Own.none_ _ _ _, HK.out⟩
theorem wnew_any (B n c : Nat) (A : Option Addr) (xs : List Nat) (w : World) (h : Bytes w B A n xs) (hB : B ≤ w.heap.size) (hn : n ≤ 140737488355328) :
    Calls Tryz.prog 112 #[.slice A n c] w fun e w' => ∃ g F, e = .returned (.pointer (some ⟨g, 0, none⟩)) ∧ ReadR w' F g xs ∧ (∀ b, F b → w.heap.size ≤ b) ∧ Keep w w' := by
  go_enter Tryz.func112, Tryz.ntmps112
  go_wp2_with fail
  refine (clone_any B n c A xs w h hB hn).mono ?_
  rintro e w1 ⟨A1, n1, c1, rfl, o1, k1⟩
  obtain rfl : xs.length = n1 := o1.length
  have HL : Hid (xs.length ≤ 140737488355328) := by show _ ≤ _; rw [h.1]; exact hn
  have O1 := Lib.hid o1
  have K1 := Lib.hid k1
  clear o1 k1 h
  go_wp2_with fail
  go_ret
  refine ⟨w1.heap.size, fun b => b = w1.heap.size ∨ ((Value.slice A1 xs.length c1).ownBlock = some b), rfl, ⟨Or.inl rfl, ?_, O1.out.2, A1, c1, heap_alloc_new _ _, ⟨own_le O1.out, HL.out⟩, ?_⟩, ?_, K1.out.alloc _ _⟩
  · rintro b (rfl | hb)
    · simp
    · have := (O1.out.1.lt b hb).2
      simp; omega
  · intro hp
    obtain ⟨g, rfl, h1, h2⟩ := O1.out.block hp
    refine ⟨g, 0, rfl, Or.inr rfl, by omega, fun i hi => ?_⟩
    rw [Nat.zero_add]
    exact (O1.out.alloc _).cell hi
  · rintro b (rfl | hb)
    · exact K1.out.size
    · exact O1.out.rowLe b hb
/-- What is left, as bytes. -/
theorem ReadR.bytes {w : World} {g : Nat} {L : List Nat} {A : Option Addr} {F : Nat → Prop} (ha : AllB L) (hF : ∀ b, F b → b < w.heap.size)
    (h : 0 < L.length → ∃ b off, A = some ⟨b, off, none⟩ ∧ F b ∧ b ≠ g ∧ ∀ i, i < L.length → w.cell? ⟨b, off + i, none⟩ = some (.int .u8 ((L.getD i 0 : Nat) : Int))) : Bytes w w.heap.size A L.length L :=
  ⟨rfl, ha, fun hp => by
    obtain ⟨b, off, e, hb, _, hc⟩ := h hp
    exact ⟨b, off, e, hF b hb, hc⟩⟩
/-- The reader's block is given what is left of its bytes. -/
theorem ReadR.step {w w' : World} {F : Nat → Prop} {g s : Nat} {L : List Nat} {A : Option Addr} {c : Nat} (hg : F g) (hF : ∀ b, F b → b < w.heap.size) (ha : AllB L) (hc : L.length ≤ c ∧ L.length ≤ 140737488355328) (hs : s ≤ L.length)
    (h : 0 < L.length → ∃ b off, A = some ⟨b, off, none⟩ ∧ F b ∧ b ≠ g ∧ ∀ i, i < L.length → w.cell? ⟨b, off + i, none⟩ = some (.int .u8 ((L.getD i 0 : Nat) : Int)))
    (hb : w'.heap[g]? = some (.cells #[.bool true, .slice (cutA A c s) (L.length - s) (c - s)] 209 (0, 0))) (k : w.grownBy w' (some g)) : ReadR w' F g (L.drop s) := by
  refine ⟨hg, fun b h1 => Nat.lt_of_lt_of_le (hF b h1) k.size, fun x hx => ha x (List.mem_of_mem_drop hx), cutA A c s, c - s, by rw [List.length_drop]; exact hb, by rw [List.length_drop]; have := hc.1; have := hc.2; omega, fun hp => ?_⟩
  rw [List.length_drop] at hp
  have hp2 : 0 < L.length := Nat.lt_of_lt_of_le hp (Nat.sub_le _ _)
  obtain ⟨b, off, rfl, h1, h2, h3⟩ := h hp2
  clear h
  refine ⟨b, off + s, ?_, h1, h2, fun i hi => ?_⟩
  · rw [cutA, if_neg (by omega)]
    simp only [Option.map_some, Addr.add]
    split <;> simp_all
  · rw [List.length_drop] at hi
    have hi2 : s + i < L.length := by omega
    have e := h3 (s + i) hi2
    rw [← Nat.add_assoc] at e
    rw [k.cell e (by simpa using h2)]
    simp [List.getD_eq_getElem?_getD, List.getElem?_drop]
theorem wleft_any (F : Nat → Prop) (g : Nat) (L : List Nat) (w : World) (h : ReadR w F g L) :
    Calls Tryz.prog 116 #[.pointer (some ⟨g, 0, none⟩)] w fun e w' => e = .returned (.int .i64 (L.length : Int)) ∧ w = w' := by
  obtain ⟨_, _, _, A, c, h4, _, _⟩ := h
  have c0 : w.cell? ⟨g, 0, none⟩ = some (.bool true) := by simp [World.cell?, h4]
  have c1 : w.cell? ⟨g, 1, none⟩ = some (.slice A L.length c) := by simp [World.cell?, h4]
  generalize L.length = n at *
  clear h4
  go_enter Tryz.func116, Tryz.ntmps116
  go_wp2_with fail
  refine (made_at g true _ c0).mono ?_
  rintro e w1 ⟨rfl, rfl⟩
  go_wp2_with fail
  go_ret
  exact ⟨rfl, rfl⟩
theorem or_low (v x : Nat) (hx : x < 256) (h : 256 * v + x < 18446744073709551616) : bits .or .u64 ((v : Int) * 256) (x : Int) = ((256 * v + x : Nat) : Int) := by
  have e : (v : Int) * 256 = ((v * 256 : Nat) : Int) := by omega
  rw [e, u64_or_nat _ _ (by omega) (by omega), nat_join 8 _ _ (by omega) (by omega), Nat.mul_comm]
set_option maxRecDepth 100000 in
set_option maxHeartbeats 1000000 in
theorem wread_in (F : Nat → Prop) (g : Nat) (L : List Nat) (s : Nat) (h1 : 1 ≤ s) (h8 : s ≤ 8) (hs : s ≤ L.length) (w : World) (h : ReadR w F g L) :
    Calls Tryz.prog 114 #[.pointer (some ⟨g, 0, none⟩), .int .i64 (s : Int)] w fun e w' => e = .returned (.tuple #[.int .u64 (valN (L.take s) : Nat), .int .i64 0]) ∧ ReadR w' F g (L.drop s) ∧ w.grownBy w' (some g) := by
  obtain ⟨q1, q2, q3, A, c, h4, q5, q6⟩ := h
  have c0 : w.cell? ⟨g, 0, none⟩ = some (.bool true) := by simp [World.cell?, h4]
  have H4 := Lib.hid h4
  have hq : ∃ b off, A = some ⟨b, off, none⟩ ∧ F b ∧ b ≠ g ∧ ∀ i, i < L.length → w.cell? ⟨b, off + i, none⟩ = some (.int .u8 ((L.getD i 0 : Nat) : Int)) := q6 (by omega)
  have Q6 := Lib.hid q6
  have Q3 := Lib.hid q3
  have HN := Lib.hid q5
  obtain ⟨b, off, rfl, hb, hne, hc⟩ := hq
  have HC := Lib.hid hc
  clear h4 q6 q3 hc
  go_enter Tryz.func114, Tryz.ntmps114
  go_wp2_with fail
  refine (made_at g true _ c0).mono ?_
  rintro e w1 ⟨rfl, rfl⟩
  go_wp2_with fail
  refine (size_yes (s : Int) (by omega) (by omega) _).mono ?_
  rintro e w1 ⟨rfl, rfl⟩
  go_wp2_with fail
  refine (step_in g L.length c s _ hs q5.1 _ H4.out).mono ?_
  rintro e w1 ⟨rfl, b1, k1⟩
  have HB := Lib.hid b1
  have HK := Lib.hid k1
  clear b1 k1 c0
  go_wp2_with fail
  go_loop [8, 28] (fun v i => ∃ j : Nat, j ≤ s ∧ i = .int .i64 j ∧ v = .int .u64 (valN (L.take j) : Nat)) (fun _ i => s - (intOf i).toNat)
  case atStart => exact ⟨0, by omega, rfl, rfl⟩
  case round =>
    obtain ⟨j, hj, rfl, rfl⟩ := hrel
    by_cases hlt : j < s
    · have hc : w1.cell? ⟨b, off + j, none⟩ = some (.int .u8 ((L.getD j 0 : Nat) : Int)) := HK.out.cell (HC.out j (by omega)) (by simpa using hne)
      have hx : L.getD j 0 < 256 := AllB.getD Q3.out j
      have hv := valN_take_succ L j (by omega)
      have h64 := valN_lt64 L (j + 1) Q3.out (by omega)
      generalize L.getD j 0 = x at *
      obtain ⟨v, hvv⟩ : ∃ v, valN (L.take j) = v := ⟨_, rfl⟩
      rw [hv] at h64
      rw [hvv] at hv h64
      rw [hvv]
      have e1 : (0 : Int) ≤ (j : Int) := Int.natCast_nonneg _
      have e2 : (j : Int) < (s : Int) := by omega
      have HV := Lib.hid hv
      clear hv hvv
      have HO := Lib.hid (or_low v x hx h64)
      go_wp2_with fail
      rw [HO.out]
      go_round
      case rel => exact ⟨j + 1, by omega, by go_num, by rw [HV.out]⟩
      case measure => simp [intOf]; omega
    · obtain rfl : s = j := by omega
      go_wp2_with fail
      go_ret2
      exact ⟨rfl, ReadR.step q1 q2 Q3.out HN.out hs Q6.out HB.out HK.out, HK.out⟩
set_option maxRecDepth 100000 in
theorem wtake_in (F : Nat → Prop) (g : Nat) (L : List Nat) (s : Nat) (hs : s ≤ L.length) (hn : s ≤ 140737488355328) (w : World) (h : ReadR w F g L) :
    Calls Tryz.prog 115 #[.pointer (some ⟨g, 0, none⟩), .int .i64 (s : Int)] w fun e w' => ∃ A n c, e = .returned (.tuple #[.slice A n c, .int .i64 0]) ∧ Own w' w.heap.size 5 A n c (L.take s) ∧
      (ReadR w' F g (L.drop s) ∧ ∀ b, (Value.slice A n c).ownBlock = some b → ¬ F b) ∧ w.grownBy w' (some g) := by
  obtain ⟨q1, q2, q3, A, c, h4, q5, q6⟩ := h
  have c0 : w.cell? ⟨g, 0, none⟩ = some (.bool true) := by simp [World.cell?, h4]
  have H4 := Lib.hid h4
  have Q6 := Lib.hid q6
  have Q3 := Lib.hid q3
  have HN := Lib.hid q5
  have e0 : ¬ (s : Int) < 0 := by omega
  clear h4 q6 q3
  go_enter Tryz.func115, Tryz.ntmps115
  go_wp2_with fail
  refine (made_at g true _ c0).mono ?_
  rintro e w1 ⟨rfl, rfl⟩
  go_wp2_with fail
  refine (step_in g L.length c s _ hs q5.1 _ H4.out).mono ?_
  rintro e w1 ⟨rfl, b1, k1⟩
  have HB := Lib.hid b1
  have HK := Lib.hid k1
  have HR := Lib.hid (ReadR.step q1 q2 Q3.out HN.out hs Q6.out b1 k1)
  have hby : Bytes w1 w1.heap.size A s (L.take s) := by
    have e := (ReadR.bytes Q3.out q2 Q6.out).cut hs
    refine ⟨e.1, e.2.1, fun hp => ?_⟩
    have hp2 : 0 < L.length := by omega
    obtain ⟨b, off, ea, hb, hne, hc⟩ := Q6.out hp2
    refine ⟨b, off, ea, Nat.lt_of_lt_of_le (q2 b hb) k1.size, fun i hi => ?_⟩
    have hi2 : i < L.length := by omega
    rw [k1.cell (hc i hi2) (by simpa using hne)]
    simp [List.getD_eq_getElem?_getD, hi]
  have HY := Lib.hid hby
  clear b1 k1 c0 hby
  go_wp2_with fail
  refine (clone_any _ s c A _ _ HY.out (Nat.le_refl _) hn).mono ?_
  rintro e w2 ⟨A2, n2, c2, rfl, o2, k2⟩
  have HO := Lib.hid o2
  have HK2 := Lib.hid k2
  clear o2 k2
  go_wp2_with fail
  go_ret2
  refine ⟨A2, n2, c2, rfl, HO.out.lower HK.out.size, ⟨HR.out.keep HK2.out, fun b hb hf => ?_⟩, grow_then HK.out HK2.out⟩
  have h1 := HO.out.rowLe b hb
  have h2 := q2 b hf
  have h3 := HK.out.size
  omega
end Go.Proofs.YtgelalbmhllccaaGreat
/- The landed pad: the tests of Take; Take. -/
namespace Go.Proofs.YtgelalbmhllccaaGreat
open Go.RowKit
set_option linter.unusedVariables false
set_option linter.unusedSimpArgs false
theorem notnought_any (x : Nat) (b : Bool) (hb : ((x : Int) != 0) = b) (w : World) :
    Calls Tryz.prog 118 #[.int .u8 x] w fun e w' => e = .returned (.bool b) ∧ w = w' := by
  go_enter Tryz.func118, Tryz.ntmps118
  go_wp2_with fail
  go_ret
  exact ⟨rfl, rfl⟩
set_option maxRecDepth 100000 in
theorem pindex_any (B n ca : Nat) (A : Option Addr) (xs : List Nat) (w : World) (h : Bytes w B A n xs) (_hn : n ≤ 140737488351232) :
    Calls Tryz.prog 121 #[.slice A n ca, .func (.func 118) #[] #[]] w fun e w' => (∃ z : Int, e = .returned (.int .i64 z) ∧ decide (0 ≤ z) = xs.any (fun x => x != 0)) ∧ w = w' := by
  go_enter Tryz.func121, Tryz.ntmps121
  go_wp2_with fail
  go_loop [8] (fun i => ∃ k : Nat, k ≤ n ∧ i = .int .i64 k ∧ ∀ j, j < k → xs.getD j 0 = 0) (fun i => n - (intOf i).toNat)
  case atStart => exact ⟨0, by omega, rfl, fun j hj => by omega⟩
  case round =>
    obtain ⟨k, hk, rfl, hz⟩ := hrel
    have HZ := Lib.hid hz
    clear hz
    by_cases hlt : k < n
    · obtain ⟨b1, o1, rfl, hb1, hc1⟩ := h.at_ hlt
      have hx := h.all.getD k
      by_cases h0 : xs.getD k 0 = 0
      · have hs : Hid (∀ j, j < k + 1 → xs.getD j 0 = 0) := fun j hj => by
          by_cases e : j = k
          · subst e; exact h0
          · exact HZ.out j (by omega)
        have b1' : (((xs.getD k 0 : Nat) : Int) != 0) = false := by rw [h0]; rfl
        generalize xs.getD k 0 = x at *
        have HB1 := Lib.hid b1'
        clear h0 b1'
        go_wp2_with fail
        refine (notnought_any x false HB1.out _).mono ?_
        rintro e w1 ⟨rfl, rfl⟩
        go_wp2_with fail
        go_round
        case rel => exact ⟨k + 1, by omega, by go_num, hs.out⟩
        case measure => simp [intOf]; omega
      · have hv : Hid (xs.any (fun x => x != 0) = true) := List.any_eq_true.2 ⟨xs.getD k 0, by
          rw [List.getD_eq_getElem?_getD, List.getElem?_eq_getElem (by rw [h.length]; exact hlt)]; exact List.getElem_mem _, by simpa using h0⟩
        have b1' : (((xs.getD k 0 : Nat) : Int) != 0) = true := by rw [bne_iff_ne]; omega
        generalize xs.getD k 0 = x at *
        have HB1 := Lib.hid b1'
        clear h0 b1'
        go_wp2_with fail
        refine (notnought_any x true HB1.out _).mono ?_
        rintro e w1 ⟨rfl, rfl⟩
        go_wp2_with fail
        go_ret
        exact ⟨⟨_, rfl, by rw [hv.out]; exact decide_eq_true (by omega)⟩, rfl⟩
    · have hv : Hid (xs.any (fun x => x != 0) = false) := List.any_eq_false.2 fun x hx => by
        obtain ⟨j, hj, e⟩ := List.getElem_of_mem hx
        have := HZ.out j (by rw [h.length] at hj; omega)
        rw [List.getD_eq_getElem?_getD, List.getElem?_eq_getElem hj] at this
        have h2 : x = 0 := by rw [← e]; exact this
        simp [h2]
      go_wp2_with fail
      go_ret
      exact ⟨⟨_, rfl, by rw [hv.out]; rfl⟩, rfl⟩
theorem pnoughts_any (B n ca : Nat) (A : Option Addr) (xs : List Nat) (w : World) (h : Bytes w B A n xs) (hn : n ≤ 140737488351232) :
    Calls Tryz.prog 117 #[.slice A n ca, .func (.func 118) #[] #[]] w fun e w' => e = .returned (.bool (xs.any (fun x => x != 0))) ∧ w = w' := by
  have HI := Lib.hid (pindex_any B n ca A xs w h hn)
  generalize xs.any (fun x => x != 0) = q at *
  clear h
  go_enter Tryz.func117, Tryz.ntmps117
  go_wp2_with fail
  refine HI.out.mono ?_
  rintro e w1 ⟨⟨z, rfl, hz⟩, rfl⟩
  go_wp2_with fail
  go_ret
  exact ⟨by rw [← hz]; rfl, rfl⟩
theorem notsize_any (n c S g : Nat) (A : Option Addr) (b : Bool) (hb : ((n : Int) != (S : Int)) = b) (w : World) (h : w.cell? ⟨g, 0, none⟩ = some (.int .i64 (S : Int))) :
    Calls Tryz.prog 111 #[.slice A n c, .pointer (some ⟨g, 0, none⟩)] w fun e w' => e = .returned (.bool b) ∧ w = w' := by
  go_enter Tryz.func111, Tryz.ntmps111
  go_wp2_with fail
  go_ret
  exact ⟨rfl, rfl⟩
set_option maxRecDepth 100000 in
theorem pindexrows_any (B n ca S g : Nat) (A : Option Addr) (rs : List RowV) (w : World) (h : RowsAt w B A n rs) (hn : n ≤ 1000000) (hc : w.cell? ⟨g, 0, none⟩ = some (.int .i64 (S : Int))) :
    Calls Tryz.prog 143 #[.slice A n ca, .func (.func 111) #[] #[.pointer (some ⟨g, 0, none⟩)]] w fun e w' => (∃ z : Int, e = .returned (.int .i64 z) ∧ decide (0 ≤ z) = rs.any (fun r => r.n != S)) ∧ w = w' := by
  have H := Lib.hid h
  clear h
  go_enter Tryz.func143, Tryz.ntmps143
  go_wp2_with fail
  go_loop [8] (fun i => ∃ k : Nat, k ≤ n ∧ i = .int .i64 k ∧ ∀ (j : Nat) (r : RowV), j < k → rs[j]? = some r → r.n = S) (fun i => n - (intOf i).toNat)
  case atStart => exact ⟨0, by omega, rfl, fun j r hj => by omega⟩
  case round =>
    obtain ⟨k, hk, rfl, hz⟩ := hrel
    have HZ := Lib.hid hz
    clear hz
    by_cases hlt : k < n
    · obtain ⟨b1, o1, r, rfl, hb1, hr, hc1, hby, hrn, hrc⟩ := H.out.at_ hlt
      by_cases h0 : r.n = S
      · have hs : Hid (∀ (j : Nat) (r : RowV), j < k + 1 → rs[j]? = some r → r.n = S) := fun j r' hj hr' => by
          by_cases e : j = k
          · subst e; rw [hr] at hr'; injection hr' with hr'; rw [← hr']; exact h0
          · exact HZ.out j r' (by omega) hr'
        have b1' : Hid (((r.n : Int) != (S : Int)) = false) := by show _ = _; rw [h0]; simp
        clear h0 hr hby
        go_wp2_with fail
        refine (notsize_any r.n r.c S g r.A false b1'.out _ hc).mono ?_
        rintro e w1 ⟨rfl, rfl⟩
        go_wp2_with fail
        go_round
        case rel => exact ⟨k + 1, by omega, by go_num, hs.out⟩
        case measure => simp [intOf]; omega
      · have hv : Hid (rs.any (fun r => r.n != S) = true) := List.any_eq_true.2 ⟨r, List.mem_of_getElem? hr, by simpa using h0⟩
        have b1' : Hid (((r.n : Int) != (S : Int)) = true) := by show _ = _; rw [bne_iff_ne]; omega
        clear h0 hr hby
        go_wp2_with fail
        refine (notsize_any r.n r.c S g r.A true b1'.out _ hc).mono ?_
        rintro e w1 ⟨rfl, rfl⟩
        go_wp2_with fail
        go_ret
        exact ⟨⟨_, rfl, by rw [hv.out]; exact decide_eq_true (by omega)⟩, rfl⟩
    · have hv : Hid (rs.any (fun r => r.n != S) = false) := List.any_eq_false.2 fun r hr => by
        obtain ⟨j, hj, e⟩ := List.getElem_of_mem hr
        have h2 : r.n = S := HZ.out j r (by have := H.out.1; omega) (by rw [List.getElem?_eq_getElem hj, e])
        simp [h2]
      go_wp2_with fail
      go_ret
      exact ⟨⟨_, rfl, by rw [hv.out]; rfl⟩, rfl⟩
theorem psizes_any (B n ca S g : Nat) (A : Option Addr) (rs : List RowV) (w : World) (h : RowsAt w B A n rs) (hn : n ≤ 1000000) (hc : w.cell? ⟨g, 0, none⟩ = some (.int .i64 (S : Int))) :
    Calls Tryz.prog 110 #[.slice A n ca, .func (.func 111) #[] #[.pointer (some ⟨g, 0, none⟩)]] w fun e w' => e = .returned (.bool (rs.any (fun r => r.n != S))) ∧ w = w' := by
  have HI := Lib.hid (pindexrows_any B n ca S g A rs w h hn hc)
  generalize rs.any (fun r => r.n != S) = q at *
  clear h
  go_enter Tryz.func110, Tryz.ntmps110
  go_wp2_with fail
  refine HI.out.mono ?_
  rintro e w1 ⟨⟨z, rfl, hz⟩, rfl⟩
  go_wp2_with fail
  go_ret
  exact ⟨by rw [← hz]; rfl, rfl⟩
end Go.Proofs.YtgelalbmhllccaaGreat
