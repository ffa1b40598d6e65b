/- A range over a function that keeps state of its own: what the walk owes. -/
import Derived.Test.YtgelalbmhllccaaGreatQaa
import Derived.RangeFuncNested
import Derived.RangeFuncBound
import Derived.RangeFuncCalls
import Derived.RangeFuncLeaves
import Derived.Shelf.Abstract
import Derived.Shelf.RegionOpen
import Derived.OwnWalkIn
import Derived.TacticsInMore
import Derived.LoopNIn
import Derived.LoopIn
import Derived.Test.YtgelalbmhllccaaGreatQab
import Derived.Test.YtgelalbmhllccaaGreatQac
import Derived.Test.YtgelalbmhllccaaGreatQad
import Derived.BigQuiet
import Derived.OneCell
import Derived.Test.YtgelalbmhllccaaGreatQaf
import Derived.Defers
import Derived.StillTailTactics
import Derived.Outline
import Derived.RegionTactic
import Derived.ChangeAlike
namespace Go.Proofs.YtgelalbmhllccaaGreat
open Go.RowKit
set_option linter.unusedVariables false
section
variable {F : Fence} {n : Nat} {P : Program}
/-- An iterator that hands things to yield: I0 holds where it begins, I1 where it hands something on, I2 where the round is over and goes on, I3 where it ends. -/
def HandsP {α : Type} (F : Fence) (n : Nat) (P : Program) (gf : FuncId) (bd lb : Array Value) (encs : α → Array Value) (B : Nat) (I0 I3 : World → Prop) (I1 I2 : α → World → Prop) : Prop :=
  ∀ (l : Nat) (X Ix : World → Prop) (W : World), (∀ W1 W2, X W1 → KeepsFrom B W1 W2 → X W2) →
    (∀ x W1, I1 x W1 → X W1 → YieldAt F (n - 1) P l (encs x) W1 fun e W' => (e = .returned (.bool true) ∧ I2 x W' ∧ X W') ∨ (e = .returned (.bool false) ∧ Ix W')) →
    I0 W → X W → CallsIn F n P gf (bd ++ #[.func (.yield l) #[] #[]] ++ lb) W fun e W' => (∃ v, e = .returned v) ∧ ((I3 W' ∧ X W') ∨ Ix W')
/-- What a body owes. -/
def postP {α : Type} (B : Nat) (I2 : α → World → Prop) (Ix : Code → World → Prop) (x : α) (W : World) : Exit → Act → World → Prop
  | .normal, _, W' => KeepsFrom B W W' ∧ I2 x W'
  | .ret, _, W' => KeepsFrom B W W' ∧ Ix .ret W'
  | .exit id, _, W' => KeepsFrom B W W' ∧ Ix (.exit id) W'
  | .goto t, _, W' => KeepsFrom B W W' ∧ Ix (.goto t) W'
  | .panic _, _, _ => False
  | .outgrown, _, _ => False
/-- What abides the turn of the loop's own blocks. -/
def Abides (B : Nat) (I : World → Prop) : Prop := ∀ (W : World) (k : Nat) (o o' : Obj), I W → B ≤ k → W.heap[k]? = some o → o.isCells = false → I (W.putObj k o')
/-- The statement. -/
theorem wpIn_range_phases {α : Type} {g : Operand} {ps : Array Tmp} {assign body : Code} {Q : Exit → Act → World → Prop} {a : Act} {w : World}
    (hro : F.round = none) (hn : 1 ≤ n) {gf : FuncId} {bd lb : Array Value} (hg : a.eval g = .func (.func gf) bd lb) (hF : F.fn gf) (eg : ∀ args w, (callFunc gf args).run P w = .ok (.enter gf args) w)
    {encs : α → Array Value} {I0 I3 : World → Prop} {I1 I2 : α → World → Prop} (hseq : HandsP F (n - 1) P gf bd lb encs w.heap.size I0 I3 I1 I2) (hps : ∀ x, (encs x).size = ps.size)
    (Ix : Code → World → Prop) (h0 : ∀ V, Keep w V → I0 V) (h1 : ∀ x, Abides w.heap.size (I1 x)) (h2 : ∀ x, Abides w.heap.size (I2 x)) (h3 : Abides w.heap.size I3) (hx : ∀ c, Abides w.heap.size (Ix c)) (b : α → Act)
    (hassign : ∀ (l : Nat) (x : α) (W : World) (K : Act → World → Prop), K (b x) W →
      assign.wpIn (F.inRound l) (n - 1 - 1) P (Exit.then K (fun _ _ _ => False)) { tmps := (ps.zip (encs x)).foldl (fun t (p, v) => t.setIfInBounds p v) a.tmps, defers := [] } W)
    (hbody : ∀ (l : Nat) (x : α) (W : World), I1 x W → w.heap.size ≤ W.heap.size → body.wpIn (F.inRound l) (n - 1 - 1) P (postP w.heap.size I2 Ix x W) (b x) W)
    (hdone : ∀ (D : Nat) (W : World), w.heap.size ≤ D → I3 W → W.heap[D]? = some (.deferred (some [])) → Q .normal { a with defers := { target := .collected D, args := #[] } :: a.defers } W)
    (hstop : ∀ (D : Nat) (c : Code) (W : World), w.heap.size ≤ D → Ix c W → W.heap[D]? = some (.deferred (some [])) → c.wpIn F n P Q { a with defers := { target := .collected D, args := #[] } :: a.defers } W) :
    (Code.rangeFunc g ps assign body).wpIn F n P Q a w := by
  refine wpIn_rangeFunc fun fn hfn => ?_
  rw [hro]
  obtain ⟨rec, hrec⟩ : ∃ rec : LoopState → Option Code → Loop, rec = fun st pe => { state := st, pending := pe, fn, tmps := a.tmps, params := ps, assign, body, defers := w.heap.size } := ⟨_, rfl⟩
  obtain ⟨X, hX⟩ : ∃ X : World → Prop, X = fun W => W.heap[w.heap.size + 1]? = some (.loop (rec .ready none)) ∧ W.heap[w.heap.size]? = some (.deferred (some [])) := ⟨_, rfl⟩
  obtain ⟨Y, hY⟩ : ∃ Y : World → Prop, Y = fun W => ∃ c, Ix c W ∧ W.heap[w.heap.size + 1]? = some (.loop (rec .done (some c))) ∧ W.heap[w.heap.size]? = some (.deferred (some [])) := ⟨_, rfl⟩
  obtain ⟨V, hV⟩ : ∃ V, (w.alloc (.deferred (some []))).alloc (.loop (rec .ready none)) = V := ⟨_, rfl⟩
  refine ⟨w.heap.size + 1, [{ target := .collected w.heap.size, args := #[] }], V, { target := .fn (.func gf) lb, args := bd ++ #[.func (.yield (w.heap.size + 1)) #[] #[]] }, V, gf, bd ++ #[.func (.yield (w.heap.size + 1)) #[] #[]] ++ lb, V, ?_, ?_, ?_, ?_, fun _ => hn, ?_⟩
  · rw [← hV, hrec]
    exact run_enterLoop_outer _ _ _ _ _
  · simp only [resolve, hg]
    simp [go_sem]
  · intro f' hf'
    simp [Target.leads] at hf'
    subst hf'
    exact hF
  · simp [invoke, go_sem, eg]
  · have hk : Keep w V := by
      rw [← hV]
      exact Below.alloc (Below.alloc (Keep.refl w) (Nat.le_refl _) _) (by simp) _
    have hz : X V := by
      rw [hX, ← hV]
      refine ⟨?_, ?_⟩
      · have := World.alloc_heap_new (w.alloc (.deferred (some []))) (.loop (rec .ready none))
        rw [World.size_alloc] at this
        exact this
      · exact (Below.heap_alloc _ _ _ (by simp)).trans (World.alloc_heap_new w _)
    refine (hseq (w.heap.size + 1) X Y _ (fun W1 W2 h k => ?_) ?_ (h0 V hk) hz).mono ?_
    · rw [hX] at h ⊢
      exact ⟨k.same _ _ (by omega) h.1 rfl, k.same _ _ (Nat.le_refl _) h.2 rfl⟩
    · intro x W hi hXW
      rw [hX] at hXW
      obtain ⟨hl, hd⟩ := hXW
      have hlt : w.heap.size + 1 < W.heap.size := (Array.getElem?_eq_some_iff.1 hl).1
      have hy := run_yield (P := P) (args := encs x) hl (by rw [hrec]; exact hps x)
      rw [hrec] at hy
      refine ⟨fn, _, assign, body, hy, roundIn_of_wpIn hfn (hassign _ x W _ ?_)⟩
      clear hy
      refine ⟨_, run_beginRound hl (by rw [hrec]), ?_⟩
      have hl2 : (W.putObj (w.heap.size + 1) (.loop { rec .ready none with state := .busy })).heap[w.heap.size + 1]? = some (.loop { rec .ready none with state := .busy }) := World.putObj_heap_same hlt
      have hd2 : (W.putObj (w.heap.size + 1) (.loop { rec .ready none with state := .busy })).heap[w.heap.size]? = some (.deferred (some [])) := (World.putObj_heap_other (by omega)).trans hd
      refine wpIn_mono (hbody _ x _ (h1 x _ _ _ _ hi (by omega) hl rfl) (by simp; omega)) ?_
      have fin : ∀ (jump : Option Code) (W3 : World), KeepsFrom w.heap.size (W.putObj (w.heap.size + 1) (.loop { rec .ready none with state := .busy })) W3 →
          (Instr.endRound (w.heap.size + 1) jump).run P W3 = .ok (.bool jump.isNone) (W3.putObj (w.heap.size + 1) (.loop (rec (if jump.isNone then .ready else .done) jump))) ∧
          W3.heap[w.heap.size + 1]? = some (.loop { rec .ready none with state := .busy }) ∧
          (W3.putObj (w.heap.size + 1) (.loop (rec (if jump.isNone then .ready else .done) jump))).heap[w.heap.size + 1]? = some (.loop (rec (if jump.isNone then .ready else .done) jump)) ∧
          (W3.putObj (w.heap.size + 1) (.loop (rec (if jump.isNone then .ready else .done) jump))).heap[w.heap.size]? = some (.deferred (some [])) := fun jump W3 hk3 => by
        have hl3 := hk3.same _ _ (by omega) hl2 rfl
        have := run_endRound (P := P) jump hl3
        rw [hrec] at this ⊢
        exact ⟨this, by rw [hrec] at hl3; exact hl3, World.putObj_heap_same (Array.getElem?_eq_some_iff.1 hl3).1, (World.putObj_heap_other (by omega)).trans (hk3.same _ _ (Nat.le_refl _) hd2 rfl)⟩
      rintro e a3 W3 hp
      cases e with
      | normal =>
        obtain ⟨hk3, hi3⟩ := hp
        obtain ⟨hr, hl3, hl4, hk4⟩ := fin none W3 hk3
        exact ⟨_, _, hr, .inl ⟨rfl, h2 x _ _ _ _ hi3 (by omega) hl3 rfl, by rw [hX]; exact ⟨hl4, hk4⟩⟩⟩
      | ret =>
        obtain ⟨hk3, hi3⟩ := hp
        obtain ⟨hr, hl3, hl4, hk4⟩ := fin (some .ret) W3 hk3
        exact ⟨_, _, hr, .inr ⟨rfl, by rw [hY]; exact ⟨.ret, hx _ _ _ _ _ hi3 (by omega) hl3 rfl, hl4, hk4⟩⟩⟩
      | exit id =>
        obtain ⟨hk3, hi3⟩ := hp
        obtain ⟨hr, hl3, hl4, hk4⟩ := fin (some (.exit id)) W3 hk3
        exact ⟨_, _, hr, .inr ⟨rfl, by rw [hY]; exact ⟨.exit id, hx _ _ _ _ _ hi3 (by omega) hl3 rfl, hl4, hk4⟩⟩⟩
      | goto t =>
        obtain ⟨hk3, hi3⟩ := hp
        obtain ⟨hr, hl3, hl4, hk4⟩ := fin (some (.goto t)) W3 hk3
        exact ⟨_, _, hr, .inr ⟨rfl, by rw [hY]; exact ⟨.goto t, hx _ _ _ _ _ hi3 (by omega) hl3 rfl, hl4, hk4⟩⟩⟩
      | panic ch => exact hp.elim
      | outgrown => exact hp.elim
    · rintro e W2 ⟨⟨v, rfl⟩, h | h⟩
      · rw [hX] at h
        obtain ⟨hi, hl, hd⟩ := h
        have he := run_endLoop (P := P) hl (by rw [hrec]; simp)
        rw [hrec] at he
        exact ⟨none, _, he, hdone _ _ (Nat.le_refl _) (h3 _ _ _ _ hi (by omega) hl rfl) ((World.putObj_heap_other (by omega)).trans hd)⟩
      · rw [hY] at h
        obtain ⟨c, hi, hl, hd⟩ := h
        have he := run_endLoop (P := P) hl (by rw [hrec]; simp)
        rw [hrec] at he
        exact ⟨some c, _, he, hstop _ c _ (Nat.le_refl _) (hx _ _ _ _ _ hi (by omega) hl rfl) ((World.putObj_heap_other (by omega)).trans hd)⟩
end
end Go.Proofs.YtgelalbmhllccaaGreat
/- The document's own answers of layer 9: room. -/
namespace Go.Proofs.YtgelalbmhllccaaGreat
open Go.RowKit
set_option linter.unusedVariables false
set_option linter.unusedSimpArgs false
theorem MayG.nat {g s : Int} (h : MayG g s) : ∃ G S P : Nat, g = G ∧ s = S ∧ 1 ≤ G ∧ G ≤ 255 ∧ 1 ≤ S ∧ S ≤ 65535 ∧ G * S = P ∧ 5 ≤ P ∧ P ≤ 16711425 ∧ (G : Int) * (S : Int) = (P : Int) := by
  obtain ⟨h1, h2, h3, h4, h5⟩ := h
  obtain ⟨G, rfl⟩ := Int.eq_ofNat_of_zero_le (show 0 ≤ g by omega)
  obtain ⟨S, rfl⟩ := Int.eq_ofNat_of_zero_le (show 0 ≤ s by omega)
  have e : (G : Int) * (S : Int) = ((G * S : Nat) : Int) := by simp
  have hm : G * S ≤ 255 * 65535 := Nat.mul_le_mul (by omega) (by omega)
  refine ⟨G, S, G * S, rfl, rfl, by omega, by omega, by omega, by omega, rfl, ?_, by omega, e⟩
  rw [e] at h5; omega
theorem rroom_in (G S P : Nat) (g1 : 1 ≤ G) (g2 : G ≤ 255) (s1 : 1 ≤ S) (s2 : S ≤ 65535) (hP : (G : Int) * (S : Int) = (P : Int)) (p1 : 5 ≤ P) (p2 : P ≤ 16711425) (w : World) :
    Calls Tryz.prog 32 #[.int .i64 (G : Int), .int .i64 (S : Int)] w fun e w' => e = .returned (.tuple #[.int .i64 ((P - 4 : Nat) : Int), .int .i64 0]) ∧ w = w' := by
  have d1 : decide ((G : Int) < 1) = false := decide_eq_false (by omega)
  have d2 : decide ((255 : Int) < (G : Int)) = false := decide_eq_false (by omega)
  have d3 : decide ((S : Int) < 1) = false := decide_eq_false (by omega)
  have d4 : decide ((65535 : Int) < (S : Int)) = false := decide_eq_false (by omega)
  have d5 : decide ((P : Int) < 5) = false := decide_eq_false (by omega)
  have w1 : IntKind.i64.wrap (P : Int) = (P : Int) := IntWalk.i64_in _ (by omega)
  have w2 : IntKind.i64.wrap ((P : Int) - 4) = ((P - 4 : Nat) : Int) := by rw [show (P : Int) - 4 = ((P - 4 : Nat) : Int) by omega]; exact IntWalk.i64_in _ (by omega)
  go_enter Tryz.func32, Tryz.ntmps32
  go_wp2_with fail
  go_ret2
  exact ⟨rfl, rfl⟩
theorem rroom_out (g s : Int) (h : ¬ MayG g s) (w : World) :
    Calls Tryz.prog 32 #[.int .i64 g, .int .i64 s] w fun e w' => e = .returned (.tuple #[.int .i64 0, .int .i64 1]) ∧ w = w' := by
  have H := Lib.hid h
  by_cases h1 : g < 1
  · have d1 : decide (g < 1) = true := decide_eq_true h1
    clear h
    go_enter Tryz.func32, Tryz.ntmps32
    go_wp2_with fail
    go_ret2
    exact ⟨rfl, rfl⟩
  have d1 : decide (g < 1) = false := decide_eq_false h1
  by_cases h2 : 255 < g
  · have d2 : decide (255 < g) = true := decide_eq_true h2
    clear h
    go_enter Tryz.func32, Tryz.ntmps32
    go_wp2_with fail
    go_ret2
    exact ⟨rfl, rfl⟩
  have d2 : decide (255 < g) = false := decide_eq_false h2
  by_cases h3 : s < 1
  · have d3 : decide (s < 1) = true := decide_eq_true h3
    clear h
    go_enter Tryz.func32, Tryz.ntmps32
    go_wp2_with fail
    go_ret2
    exact ⟨rfl, rfl⟩
  have d3 : decide (s < 1) = false := decide_eq_false h3
  by_cases h4 : 65535 < s
  · have d4 : decide (65535 < s) = true := decide_eq_true h4
    clear h
    go_enter Tryz.func32, Tryz.ntmps32
    go_wp2_with fail
    go_ret2
    exact ⟨rfl, rfl⟩
  have d4 : decide (65535 < s) = false := decide_eq_false h4
  have h5 : g * s < 5 := by
    refine Classical.byContradiction fun h5 => h ⟨by omega, by omega, by omega, by omega, by omega⟩
  have h6 : 0 ≤ g * s := Int.mul_nonneg (by omega) (by omega)
  have w1 : IntKind.i64.wrap (g * s) = g * s := IntWalk.i64_in _ (by omega)
  have d5 : decide (g * s < 5) = true := decide_eq_true h5
  obtain ⟨p, hp⟩ : ∃ p, g * s = p := ⟨_, rfl⟩
  rw [hp] at h5 h6 w1 d5
  clear h
  go_enter Tryz.func32, Tryz.ntmps32
  go_wp2_with fail
  go_ret2
  exact ⟨rfl, rfl⟩
end Go.Proofs.YtgelalbmhllccaaGreat
/- The document's own answers of layer 9: symbols of a chunk. -/
namespace Go.Proofs.YtgelalbmhllccaaGreat
open Go.RowKit
set_option linter.unusedVariables false
set_option linter.unusedSimpArgs false
end Go.Proofs.YtgelalbmhllccaaGreat
/- The document's own Lay of layer 9. -/
namespace Go.Proofs.YtgelalbmhllccaaGreat
open Go.RowKit
set_option linter.unusedVariables false
set_option linter.unusedSimpArgs false
theorem run_piece (f t n c : Nat) (A : Option Addr) (h1 : f ≤ t) (h2 : t ≤ c) (w : World) :
    (Instr.slice 43 (.slice A n c) (some (.int .i64 (f : Int))) (some (.int .i64 (t : Int))) none).run Tryz.prog w = .ok (.slice (dropA A c f) (t - f) (c - f)) w := by
  have ht : Tryz.prog.underlying 43 = some (.slice (Tryz.prog.elem 43)) := by kernel_rfl
  obtain ⟨i0, hi0, hz0, hz1, hz2⟩ := info_parts info5
  have he : Tryz.prog.elem 43 = 5 := by kernel_rfl
  rw [run_slice_lh (P := Tryz.prog) (w := w) 43 A n c ht .i64 .i64 f t (by omega) (by omega) (by omega), he]
  simp [sizeOf, typeInfo, hi0, hz1, sliced, dropA]
theorem Bytes.piece {w : World} {B n c f t : Nat} {A : Option Addr} {xs : List Nat} (h : Bytes w B A n xs) (h1 : f ≤ t) (h2 : t ≤ n) (hc : n ≤ c) : Bytes w B (dropA A c f) (t - f) (pieceN xs f t) := by
  refine ⟨piece_len h1 (by rw [h.1]; exact h2), fun x hx => h.2.1 x (List.mem_of_mem_drop (List.mem_of_mem_take hx)), fun hp => ?_⟩
  obtain ⟨b, off, rfl, hb, hcell⟩ := h.2.2 (by omega)
  refine ⟨b, off + f, dropA_some b off c f (by omega), hb, fun i hi => ?_⟩
  rw [Nat.add_assoc, hcell (f + i) (by omega)]
  simp [pieceN, List.getD_eq_getElem?_getD, List.getElem?_take, List.getElem?_drop, hi]
end Go.Proofs.YtgelalbmhllccaaGreat
/- The document's own Take of layer 9. -/
namespace Go.Proofs.YtgelalbmhllccaaGreat
open Go.RowKit
set_option linter.unusedVariables false
set_option linter.unusedSimpArgs false
theorem rtake_out (g s : Int) (h : ¬ MayG g s) (A : Option Addr) (n c : Nat) (w : World) : Calls Tryz.prog 46 #[.slice A n c, .int .i64 g, .int .i64 s] w (NewPair w [] 1) := by
  go_enter Tryz.func46, Tryz.ntmps46
  go_wp2_with fail
  refine (rroom_out g s h w).mono ?_
  rintro e w1 ⟨rfl, rfl⟩
  go_wp2_with fail
  go_ret2
  exact NewPair.nil _ _
theorem rtake_dim (G S P n : Nat) (g1 : 1 ≤ G) (g2 : G ≤ 255) (s1 : 1 ≤ S) (s2 : S ≤ 65535) (hP : (G : Int) * (S : Int) = (P : Int)) (p1 : 5 ≤ P) (p2 : P ≤ 16711425) (hn : n ≠ G) (A : Option Addr) (c : Nat) (w : World) : Calls Tryz.prog 46 #[.slice A n c, .int .i64 (G : Int), .int .i64 (S : Int)] w (NewPair w [] 21) := by
  have d1 : ((n : Int) == (G : Int)) = false := beq_eq_false_iff_ne.2 (by omega)
  go_enter Tryz.func46, Tryz.ntmps46
  go_wp2_with fail
  refine (rroom_in G S P g1 g2 s1 s2 hP p1 p2 w).mono ?_
  rintro e w1 ⟨rfl, rfl⟩
  go_wp2_with fail
  go_ret2
  exact NewPair.nil _ _
theorem own_le {w : World} {base n c : Nat} {e : TypeId} {A : Option Addr} {xs : List Nat} (h : Own w base e A n c xs) : n ≤ c := by
  rcases h.1.2 with ⟨hv, h0⟩ | ⟨g, cap, cur, hv, _, _, hle, _⟩
  · omega
  · injection hv with _ _ h3; omega
theorem NewPair.none_at {w w' : World} (k : Keep w w') (er : Int) : NewPair w [] er (.returned (.tuple #[.slice none 0 0, .int .i64 er])) w' := ⟨none, 0, 0, rfl, Own.none_ _ _ _, k⟩
set_option maxRecDepth 100000 in
set_option maxHeartbeats 4000000 in
theorem rtake_in (G S P : Nat) (g1 : 1 ≤ G) (g2 : G ≤ 255) (s1 : 1 ≤ S) (s2 : S ≤ 65535) (hP : (G : Int) * (S : Int) = (P : Int)) (p1 : 5 ≤ P) (p2 : P ≤ 16711425) (A : Option Addr) (c : Nat) (rs : List RowV) (w : World) (h : RowsAt w w.heap.size A G rs) :
    Calls Tryz.prog 46 #[.slice A G c, .int .i64 (G : Int), .int .i64 (S : Int)] w (NewPair w (takeV G S (rowsOf rs)) (takeE G S (rowsOf rs))) := by
  obtain ⟨R, hR⟩ : ∃ R, rowsOf rs = R := ⟨_, rfl⟩
  have HRL : Hid (R.length = G) := by rw [← hR, rowsOf, List.length_map]; exact h.1
  have HRX : Hid (∀ (i : Nat) (r : RowV), rs[i]? = some r → R[i]? = some r.xs) := fun i r hr => by rw [← hR, rowsOf, List.getElem?_map, hr]; rfl
  have HPN : Hid (G * S = P) := by
    have : ((G * S : Nat) : Int) = (P : Int) := by rw [← hP]; simp
    show _ = _
    omega
  rw [hR]
  have H := Lib.hid h
  obtain ⟨V, hV⟩ : ∃ V, takeV G S R = V := ⟨_, rfl⟩
  obtain ⟨E, hE⟩ : ∃ E, takeE G S R = E := ⟨_, rfl⟩
  have HVE := Lib.hid (And.intro hV hE)
  rw [hV, hE]
  clear h hR hV hE
  go_enter Tryz.func46, Tryz.ntmps46
  go_wp2_with fail
  refine (rroom_in G S P g1 g2 s1 s2 hP p1 p2 w).mono ?_
  rintro e w1 ⟨rfl, rfl⟩
  go_wp2_with fail
  go_loopw [10, 11] (fun av iv wr => ∃ (i L : Nat) (Aa : Option Addr) (ca : Nat), i ≤ G ∧ iv = .int .i64 i ∧ i * S = L ∧ av = .slice Aa L ca ∧ Own wr w.heap.size 5 Aa L ca (R.take i).flatten ∧ Keep w wr ∧ ∀ r ∈ R.take i, r.length = S) (fun _ iv _ => G - (intOf iv).toNat)
  case atStart => exact ⟨0, 0, none, 0, by omega, rfl, by simp, rfl, Own.none_ _ _ _, Keep.refl w, fun r hr => by simp at hr⟩
  case round =>
    obtain ⟨i, L, Aa, ca, hi, rfl, hL, rfl, hown, hkeep, hall⟩ := hrel
    have HO := Lib.hid hown
    have HK := Lib.hid hkeep
    have HA := Lib.hid hall
    have HL := Lib.hid hL
    have hLP : L ≤ P := by rw [← hL, ← HPN.out]; exact Nat.mul_le_mul_right S hi
    clear hown hkeep hall hL
    have f1 : (0 : Int) ≤ (i : Int) := Int.natCast_nonneg _
    by_cases hlt : i < G
    · have f2 : (i : Int) < (G : Int) := by omega
      obtain ⟨b, off, r, rfl, hb, hr, hc, hby, hrn, hrc⟩ := (H.out.keep (Nat.le_refl _) HK.out).at_ hlt
      have hx := HRX.out i r hr
      by_cases hS : r.n = S
      · have d1 : ((r.n : Int) == (S : Int)) = true := beq_iff_eq.2 (by omega)
        have HB := Lib.hid (hby.mono HK.out.size)
        have hsu : R.take (i + 1) = R.take i ++ [r.xs] := by rw [List.take_add_one, hx]; rfl
        have HSU := Lib.hid hsu
        have HLN : Hid (r.xs.length = S) := by show _ = _; rw [hby.length, hS]
        have HNS := Lib.hid hS
        clear hr hx hb hby hsu hS
        go_wp2_with (at_builtin; refine wpList_append_bytes rfl _ _ 43 rfl Tryz.underlying43 info5 rfl HO.out rfl HB.out ?c1 (by have := HK.out.size; omega) ?_)
        case c1 => have := HNS.out; omega
        intro A2 c2 w2 h2 hgr2 _
        have HK2 := Lib.hid (HK.out.grown hgr2 HO.out.rowLe)
        have HO2 : Hid (Own w2 w.heap.size 5 A2 (L + r.n) c2 (R.take (i + 1)).flatten) := by
          show Own _ _ _ _ _ _ _
          rw [HSU.out, List.flatten_append]; simpa using h2
        clear h2 hgr2
        go_wp2_with fail
        go_roundw
        case rel => exact ⟨i + 1, L + r.n, A2, c2, by omega, by go_num, by rw [Nat.add_mul, Nat.one_mul, HL.out, HNS.out], rfl, HO2.out, HK2.out, fun x hx => by
          rw [HSU.out] at hx
          rcases List.mem_append.1 hx with hx | hx
          · exact HA.out x hx
          · rw [List.mem_singleton] at hx; subst hx; exact HLN.out⟩
        case measure => simp [intOf]; omega
      · have d1 : ((r.n : Int) == (S : Int)) = false := beq_eq_false_iff_ne.2 (by omega)
        have hno : ¬ okSym G S R := fun hk => hS (by
          have := hk.2 r.xs (List.mem_of_getElem? hx)
          rw [← hby.length]; exact this)
        have hE : E = 21 := by rw [← HVE.out.2, takeE, if_pos hno]
        have hV : V = [] := by rw [← HVE.out.1, takeV, takeE, if_pos hno]; rfl
        subst hE; subst hV
        clear hr hx hb hby hS hno
        go_wp2_with fail
        go_ret2
        exact NewPair.none_at HK.out 21
    · obtain rfl : i = G := by omega
      obtain rfl : P = L := HPN.out.symm.trans HL.out
      have hok : okSym i S R := ⟨HRL.out, by have := HA.out; rwa [List.take_of_length_le (by rw [HRL.out]; exact Nat.le_refl _)] at this⟩
      have hfl : (R.take i).flatten = R.flatten := by rw [List.take_of_length_le (by rw [HRL.out]; exact Nat.le_refl _)]
      have ho := HO.out
      rw [hfl] at ho
      obtain ⟨Y, hY⟩ : ∃ Y, R.flatten = Y := ⟨_, rfl⟩
      rw [hY] at ho
      have HY : Hid (Y.length = P ∧ AllB Y) := ⟨ho.length, ho.bytes.all⟩
      have hE : E = if ¬ okForm P Y then 5 else 0 := by rw [← HVE.out.2, takeE, if_neg (not_not_intro hok), HPN.out, hY]
      have hV : V = if E = 0 then (Y.drop 4).take (headN Y) else [] := by rw [← HVE.out.1, takeV, HVE.out.2, hY]
      have HE := Lib.hid (And.intro hE hV)
      have HOY := Lib.hid ho
      clear hok hfl ho hY hE hV HO HA hlt hLP
      go_wp2_with fail
      go_loopw [12, 13] (fun nv iv wz => ∃ j : Nat, j ≤ 4 ∧ iv = .int .i64 j ∧ nv = .int .i64 ((valN (Y.take j) : Nat) : Int) ∧ wz = wr) (fun _ iv _ => 4 - (intOf iv).toNat)
      case atStart => exact ⟨0, by omega, rfl, rfl, rfl⟩
      case round =>
        obtain ⟨j, hj, rfl, rfl, rfl⟩ := hrel
        have f1 : (0 : Int) ≤ (j : Int) := Int.natCast_nonneg _
        have hvl : valN (Y.take j) < 4294967296 := by
          have := valN_lt (Y.take j) (HY.out.2.take j)
          have h2 : (Y.take j).length ≤ 4 := by rw [List.length_take]; omega
          exact Nat.lt_of_lt_of_le this (Nat.pow_le_pow_right (by decide) h2)
        obtain ⟨v, hv⟩ : ∃ v, valN (Y.take j) = v := ⟨_, rfl⟩
        rw [hv] at hvl ⊢
        by_cases hlt4 : j < 4
        · have f2 : (j : Int) < 4 := by omega
          obtain ⟨gA, rfl, hgA, _⟩ := HOY.out.block (by omega)
          have f3 : (j : Int) < (P : Int) := by omega
          have hc := HOY.out.cell (i := j) (by omega)
          have hx : Y.getD j 0 < 256 := HY.out.2.getD j
          have hsu := valN_take_succ Y j (by rw [HY.out.1]; omega)
          rw [hv] at hsu
          obtain ⟨x, hxx⟩ : ∃ x, Y.getD j 0 = x := ⟨_, rfl⟩
          rw [hxx] at hc hx hsu
          obtain ⟨v2, hv2⟩ : ∃ v2, 256 * v = v2 := ⟨_, rfl⟩
          have e1 : 256 * (v : Int) = (v2 : Int) := by omega
          have w1 : IntKind.i64.wrap (v2 : Int) = (v2 : Int) := IntWalk.i64_in _ (by omega)
          have w3 : IntKind.i64.wrap (x : Int) = (x : Int) := IntWalk.i64_in _ (by omega)
          obtain ⟨v3, hv3⟩ : ∃ v3, v2 + x = v3 := ⟨_, rfl⟩
          have e2 : (v2 : Int) + (x : Int) = (v3 : Int) := by omega
          have w2 : IntKind.i64.wrap (v3 : Int) = (v3 : Int) := IntWalk.i64_in _ (by omega)
          have HSU : Hid (valN (Y.take (j + 1)) = v3) := by show _ = _; rw [hsu, ← hv3, ← hv2]
          clear hv hsu hxx hv2 hv3 hgA
          go_wp2_with fail
          go_roundw
          case rel => exact ⟨j + 1, by omega, by go_num, by rw [HSU.out], by first | trivial | rfl⟩
          case measure => simp [intOf]; omega
        · obtain rfl : j = 4 := by omega
          have hh : headN Y = v := hv
          have HH := Lib.hid hh
          clear hv hh hlt4
          have HEB : Hid (¬ (1 ≤ v ∧ v ≤ P - 4) → E = 5 ∧ V = []) := fun hbad => by
            have hno : ¬ okForm P Y := fun hk => hbad ⟨by have := hk.1; rw [HH.out] at this; exact this, by have := hk.2.1; rw [HH.out] at this; exact this⟩
            have h1 : E = 5 := by rw [HE.out.1, if_pos hno]
            exact ⟨h1, by rw [HE.out.2, if_neg (by rw [h1]; decide)]⟩
          by_cases hv1 : v < 1
          · obtain ⟨rfl, rfl⟩ := HEB.out (by omega)
            have d1 : decide ((v : Int) < 1) = true := decide_eq_true (by omega)
            have d1' : decide (v < 1) = true := decide_eq_true hv1
            clear hv1
            go_wp2_with fail
            go_ret2
            exact NewPair.none_at HK.out 5
          · have d1 : decide ((v : Int) < 1) = false := decide_eq_false (by omega)
            have d1' : decide (v < 1) = false := decide_eq_false hv1
            by_cases hv2 : P - 4 < v
            · obtain ⟨rfl, rfl⟩ := HEB.out (by omega)
              have d2 : decide (((P - 4 : Nat) : Int) < (v : Int)) = true := decide_eq_true (by omega)
              have d2' : decide (P - 4 < v) = true := decide_eq_true hv2
              clear hv1 hv2
              go_wp2_with fail
              go_ret2
              exact NewPair.none_at HK.out 5
            · have d2 : decide (((P - 4 : Nat) : Int) < (v : Int)) = false := decide_eq_false (by omega)
              have d2' : decide (P - 4 < v) = false := decide_eq_false hv2
              have w1 : IntKind.i64.wrap (4 + (v : Int)) = ((4 + v : Nat) : Int) := by rw [show 4 + (v : Int) = ((4 + v : Nat) : Int) by omega]; exact IntWalk.i64_in _ (by omega)
              obtain ⟨t, ht⟩ : ∃ t, 4 + v = t := ⟨_, rfl⟩
              rw [ht] at w1
              have htP : t ≤ P := by omega
              have HT := Lib.hid ht
              have HV1 := Lib.hid (And.intro hv1 hv2)
              clear ht hv1 hv2
              go_wp2_with fail
              go_loopw [14] (fun iv wz => ∃ u : Nat, t ≤ u ∧ u ≤ P ∧ iv = .int .i64 u ∧ wz = wr ∧ ∀ x, t ≤ x → x < u → Y.getD x 0 = 0) (fun iv _ => P - (intOf iv).toNat)
              case atStart => exact ⟨t, Nat.le_refl _, htP, rfl, rfl, fun x h1 h2 => by omega⟩
              case round =>
                obtain ⟨u, hu1, hu2, rfl, rfl, hz⟩ := hrel
                have HZ := Lib.hid hz
                clear hz
                have f5 : (0 : Int) ≤ (u : Int) := Int.natCast_nonneg _
                by_cases hltP : u < P
                · have f6 : (u : Int) < (P : Int) := by omega
                  obtain ⟨gA, rfl, hgA, _⟩ := HOY.out.block (by omega)
                  have hc := HOY.out.cell (i := u) (by omega)
                  have hx : Y.getD u 0 < 256 := HY.out.2.getD u
                  obtain ⟨x, hxx⟩ : ∃ x, Y.getD u 0 = x := ⟨_, rfl⟩
                  rw [hxx] at hc hx
                  by_cases hx0 : x = 0
                  · subst hx0
                    have HXX := Lib.hid hxx
                    clear hxx hgA
                    go_wp2_with fail
                    go_roundw
                    case rel => exact ⟨u + 1, by omega, by omega, by go_num, by first | trivial | rfl, fun y h1 h2 => by
                      rcases Nat.lt_or_ge y u with h3 | h3
                      · exact HZ.out y h1 h3
                      · obtain rfl : y = u := by omega
                        exact HXX.out⟩
                    case measure => simp [intOf]; omega
                  · have d3 : ((x : Int) == 0) = false := beq_eq_false_iff_ne.2 (by omega)
                    have hno : ¬ okForm P Y := fun hk => hx0 (by
                      have h3 := hk.2.2 (Y.getD u 0) (by
                        rw [HH.out, HT.out]
                        have : Y[u]? = some (Y.getD u 0) := by rw [List.getD_eq_getElem?_getD, List.getElem?_eq_getElem (by rw [HY.out.1]; exact hltP)]; rfl
                        exact List.mem_of_getElem? (i := u - t) (by rw [List.getElem?_drop, show t + (u - t) = u by omega]; exact this))
                      rw [← hxx]; exact h3)
                    have h1 : E = 5 := by rw [HE.out.1, if_pos hno]
                    have h2 : V = [] := by rw [HE.out.2, if_neg (by rw [h1]; decide)]
                    clear HE HEB HVE
                    subst h1; subst h2
                    clear hno hxx hx0 hgA
                    go_wp2_with fail
                    go_ret2
                    exact NewPair.none_at HK.out 5
                · obtain rfl : u = P := by omega
                  have hyes : okForm u Y := ⟨by rw [HH.out]; have := HV1.out; omega, by rw [HH.out]; have := HV1.out; omega, fun x hx => by
                    rw [HH.out, HT.out] at hx
                    obtain ⟨k, hk, e⟩ := List.getElem_of_mem hx
                    rw [List.length_drop, HY.out.1] at hk
                    have := HZ.out (t + k) (by omega) (by omega)
                    rw [List.getElem_drop] at e
                    rw [← e, ← this, List.getD_eq_getElem?_getD, List.getElem?_eq_getElem (by rw [HY.out.1]; omega)]; rfl⟩
                  have h1 : E = 0 := by rw [HE.out.1, if_neg (not_not_intro hyes)]
                  have h2 : V = pieceN Y 4 t := by rw [HE.out.2, if_pos h1, HH.out, pieceN, ← HT.out, Nat.add_sub_cancel_left]
                  have h4t : 4 ≤ t := by have := HT.out; omega
                  have sl : ∀ w, (Instr.slice 43 (.slice Aa u ca) (some (.int .i64 4)) (some (.int .i64 (t : Int))) none).run Tryz.prog w = .ok (.slice (dropA Aa ca 4) (t - 4) (ca - 4)) w := fun w => run_piece 4 t u ca Aa h4t (by have := (own_le HOY.out); omega) w
                  have HB := Lib.hid (HOY.out.bytes.piece (f := 4) (t := t) (c := ca) h4t htP (own_le HOY.out))
                  rw [← h2] at HB
                  clear HE HEB HVE
                  subst h1
                  clear h2 hyes
                  go_wp2_with fail
                  refine (rown_any _ _ _ _ V wr HB.out (by omega)).mono ?_
                  rintro e w8 ⟨A8, n8, c8, rfl, o8, k8⟩
                  have HN : Hid (NewPair w V 0 (.returned (.tuple #[.slice A8 n8 c8, .int .i64 0])) w8) := ⟨A8, n8, c8, rfl, o8.lower HK.out.size, HK.out.trans k8⟩
                  clear o8 k8
                  go_wp2_with fail
                  go_ret2
                  exact HN.out
end Go.Proofs.YtgelalbmhllccaaGreat
/- The document's own Chunks of layer 9. -/
namespace Go.Proofs.YtgelalbmhllccaaGreat
open Go.RowKit
set_option linter.unusedVariables false
set_option linter.unusedSimpArgs false
/-- A slice of n ints at A, below block B. -/
def IntsAt (w : World) (B : Nat) (A : Option Addr) (n : Nat) (l : List Int) : Prop :=
  l.length = n ∧ (0 < n → ∃ b off, A = some ⟨b, off, none⟩ ∧ b < B ∧ ∀ (i : Nat) (z : Int), l[i]? = some z → w.cell? ⟨b, off + i, none⟩ = some (.int .i64 z))
theorem IntsAt.keep {w w' : World} {B n : Nat} {A : Option Addr} {l : List Int} (h : IntsAt w B A n l) (hB : B ≤ w.heap.size) (k : Keep w w') : IntsAt w' B A n l :=
  ⟨h.1, fun hn => by
    obtain ⟨b, off, e, hb, hc⟩ := h.2 hn
    exact ⟨b, off, e, hb, fun i z hi => ((Below.mono k hB).cell (p := ⟨b, off + i, none⟩) hb).trans (hc i z hi)⟩⟩
/-- Cuts that rise, none above n. -/
def GoodC (n : Nat) (l : List Int) (k : Nat) : Prop := ∀ i z, i < k → l[i]? = some z → 0 ≤ z ∧ z ≤ (n : Int) ∧ ∀ y, 0 < i → l[i - 1]? = some y → y ≤ z
def NewChunks (w : World) (M : List (List Nat)) (O : List Nat) (er : Int) (e : Ending) (w' : World) : Prop :=
  ∃ A n c A' n' c', e = .returned (.tuple #[.slice A n c, .slice A' n' c', .int .i64 er]) ∧ (∃ rs, RowsIn w' (fun b => w.heap.size ≤ b ∧ b < w'.heap.size) A n rs ∧ n ≤ c ∧ rowsXs rs = M) ∧ Own w' w.heap.size 5 A' n' c' O ∧ Keep w w'
theorem NewChunks.nil {w w' : World} (k : Keep w w') (er : Int) : NewChunks w [] [] er (.returned (.tuple #[.slice none 0 0, .slice none 0 0, .int .i64 er])) w' := ⟨none, 0, 0, none, 0, 0, rfl, ⟨[], RowsIn.nothing _ _ _, Nat.le_refl _, rfl⟩, Own.none_ _ _ _, k⟩
end Go.Proofs.YtgelalbmhllccaaGreat
/- The landed pad: room; the closure that hands out pieces. -/
namespace Go.Proofs.YtgelalbmhllccaaGreat
open Go.RowKit
set_option linter.unusedVariables false
set_option linter.unusedSimpArgs false
theorem proom_in (G S P : Nat) (g1 : 1 ≤ G) (g2 : G ≤ 255) (s1 : 1 ≤ S) (s2 : S ≤ 65535) (hP : (G : Int) * (S : Int) = (P : Int)) (p1 : 5 ≤ P) (p2 : P ≤ 16711425) (w : World) :
    Calls Tryz.prog 31 #[.int .i64 (G : Int), .int .i64 (S : Int)] w fun e w' => e = .returned (.tuple #[.int .i64 ((P - 4 : Nat) : Int), .int .i64 0]) ∧ w = w' := by
  have d1 : decide ((G : Int) < 1) = false := decide_eq_false (by omega)
  have d2 : decide ((255 : Int) < (G : Int)) = false := decide_eq_false (by omega)
  have d3 : decide ((S : Int) < 1) = false := decide_eq_false (by omega)
  have d4 : decide ((65535 : Int) < (S : Int)) = false := decide_eq_false (by omega)
  have d5 : decide ((P : Int) ≤ 4) = false := decide_eq_false (by omega)
  have w1 : IntKind.i64.wrap (P : Int) = (P : Int) := IntWalk.i64_in _ (by omega)
  have w2 : IntKind.i64.wrap ((P : Int) - 4) = ((P - 4 : Nat) : Int) := by rw [show (P : Int) - 4 = ((P - 4 : Nat) : Int) by omega]; exact IntWalk.i64_in _ (by omega)
  go_enter Tryz.func31, Tryz.ntmps31
  go_wp2_with fail
  go_ret2
  exact ⟨rfl, rfl⟩
theorem proom_out (g s : Int) (h : ¬ MayG g s) (w : World) :
    Calls Tryz.prog 31 #[.int .i64 g, .int .i64 s] w fun e w' => e = .returned (.tuple #[.int .i64 0, .int .i64 1]) ∧ w = w' := by
  have H := Lib.hid h
  by_cases h1 : g < 1
  · have d1 : decide (g < 1) = true := decide_eq_true h1
    clear h
    go_enter Tryz.func31, Tryz.ntmps31
    go_wp2_with fail
    go_ret2
    exact ⟨rfl, rfl⟩
  have d1 : decide (g < 1) = false := decide_eq_false h1
  by_cases h2 : 255 < g
  · have d2 : decide (255 < g) = true := decide_eq_true h2
    clear h
    go_enter Tryz.func31, Tryz.ntmps31
    go_wp2_with fail
    go_ret2
    exact ⟨rfl, rfl⟩
  have d2 : decide (255 < g) = false := decide_eq_false h2
  by_cases h3 : s < 1
  · have d3 : decide (s < 1) = true := decide_eq_true h3
    clear h
    go_enter Tryz.func31, Tryz.ntmps31
    go_wp2_with fail
    go_ret2
    exact ⟨rfl, rfl⟩
  have d3 : decide (s < 1) = false := decide_eq_false h3
  by_cases h4 : 65535 < s
  · have d4 : decide (65535 < s) = true := decide_eq_true h4
    clear h
    go_enter Tryz.func31, Tryz.ntmps31
    go_wp2_with fail
    go_ret2
    exact ⟨rfl, rfl⟩
  have d4 : decide (65535 < s) = false := decide_eq_false h4
  have h5 : g * s < 5 := by
    refine Classical.byContradiction fun h5 => h ⟨by omega, by omega, by omega, by omega, by omega⟩
  have h6 : 0 ≤ g * s := Int.mul_nonneg (by omega) (by omega)
  have w1 : IntKind.i64.wrap (g * s) = g * s := IntWalk.i64_in _ (by omega)
  have d5 : decide (g * s ≤ 4) = true := decide_eq_true (by omega)
  obtain ⟨p, hp⟩ : ∃ p, g * s = p := ⟨_, rfl⟩
  rw [hp] at h5 h6 w1 d5
  clear h
  go_enter Tryz.func31, Tryz.ntmps31
  go_wp2_with fail
  go_ret2
  exact ⟨rfl, rfl⟩
/-- What is to be handed out stands at gC. -/
def Cur (w : World) (gC m c : Nat) (A : Option Addr) : Prop := w.heap[gC]? = some (.cells #[.slice A m c] 43 (0, 0))
theorem Cur.cell {w : World} {gC m c : Nat} {A : Option Addr} (h : Cur w gC m c A) : w.cell? ⟨gC, 0, none⟩ = some (.slice A m c) := cell_of_one h
theorem Cur.free {w : World} {gC m c : Nat} {A : Option Addr} (h : Cur w gC m c A) : w.frozen? ⟨gC, 0, none⟩ = false := free_of_one h
theorem Cur.put {w : World} {gC m c m' c' : Nat} {A A' : Option Addr} (h : Cur w gC m c A) : Cur (w.setCell ⟨gC, 0, none⟩ (.slice A' m' c')) gC m' c' A' := one_setCell h
end Go.Proofs.YtgelalbmhllccaaGreat
/- What the contracts of layer 3 lean on. -/
namespace Go.Proofs.YtgelalbmhllccaaGreat
open Go.RowKit
/-- The address of a slice cut at its head. -/
def cutA (A : Option Addr) (c s : Nat) : Option Addr := if c = s then A else A.map (·.add s)
theorem run_cut (n c s : Nat) (A : Option Addr) (hs : s ≤ n) (w : World) :
    (Instr.slice 43 (.slice A n c) (some (.int .i64 (s : Int))) none none).run Tryz.prog w = .ok (.slice (cutA A c s) (n - s) (c - s)) w := by
  have ht : Tryz.prog.underlying 43 = some (.slice (Tryz.prog.elem 43)) := by kernel_rfl
  obtain ⟨i0, hi0, hz0, hz1, hz2⟩ := info_parts info5
  have he : Tryz.prog.elem 43 = 5 := by kernel_rfl
  rw [run_slice_l (P := Tryz.prog) (w := w) 43 A n c ht .i64 s (by omega) (by omega), he]
  simp [sizeOf, typeInfo, hi0, hz1, sliced, cutA]
theorem Bytes.drop {w : World} {B n c s : Nat} {A : Option Addr} {xs : List Nat} (h : Bytes w B A n xs) (hc : n ≤ c) : Bytes w B (cutA A c s) (n - s) (xs.drop s) := by
  refine ⟨by rw [List.length_drop, h.1], fun x hx => h.2.1 x (List.mem_of_mem_drop hx), fun hp => ?_⟩
  obtain ⟨b, off, rfl, hb, hcell⟩ := h.2.2 (by omega)
  refine ⟨b, off + s, ?_, hb, fun i hi => ?_⟩
  · rw [cutA, if_neg (by omega)]
    simp only [Option.map_some, Addr.add]
    split <;> simp_all
  · rw [Nat.add_assoc, hcell (s + i) (by omega)]
    simp [List.getD_eq_getElem?_getD, List.getElem?_drop]
theorem valN_lt64 (L : List Nat) (s : Nat) (h : AllB L) (hs : s ≤ 8) : valN (L.take s) < 18446744073709551616 := by
  have h1 := valN_lt (L.take s) (h.take s)
  have h2 : 256 ^ (L.take s).length ≤ 256 ^ 8 := Nat.pow_le_pow_right (by decide) (by rw [List.length_take]; omega)
  exact Nat.lt_of_lt_of_le h1 h2
end Go.Proofs.YtgelalbmhllccaaGreat
/- The landed step of a reader, through its deferred closure. -/
namespace Go.Proofs.YtgelalbmhllccaaGreat
open Go.RowKit
theorem undo_none (a b c d : Addr) (u : FrameMode) (w : World) (h0 : w.cell? a = some (.int .i64 0)) :
    CallsD Tryz.prog 156 #[.pointer (some a), .pointer (some b), .pointer (some c), .pointer (some d)] u w fun e u' w' => u' = u ∧ (e = .returned (.tuple #[]) ∧ w = w') := by
  go_enter_d Tryz.func156, Tryz.ntmps156
  go_wp2
  go_end0
  exact ⟨rfl, rfl⟩
theorem grow_then {a b c : World} {row : Option Nat} (h : a.grownBy b row) (k : Keep b c) : a.grownBy c row :=
  ⟨k.os.trans h.os, k.tape.trans h.tape, k.output.trans h.output, Nat.le_trans h.size k.size, fun i hi hne => (k.block i (Nat.lt_of_lt_of_le hi h.size)).trans (h.block i hi hne)⟩
/-- The reader's block, its second field given anew. -/
theorem two_put (w : World) (g n c n' c' : Nat) (A A' : Option Addr) (h : w.heap[g]? = some (.cells #[.bool true, .slice A n c] 209 (0, 0))) :
    (w.setCell ⟨g, 1, none⟩ (.slice A' n' c')).heap[g]? = some (.cells #[.bool true, .slice A' n' c'] 209 (0, 0)) ∧ w.grownBy (w.setCell ⟨g, 1, none⟩ (.slice A' n' c')) (some g) :=
  ⟨by rw [heap_setCell_same w g 1 _ _ _ h]; rfl, ⟨rfl, rfl, rfl, by simp [World.setCell], fun k _ hk => heap_setCell_other _ _ _ _ fun e => hk (by rw [e])⟩⟩
set_option maxRecDepth 100000 in
theorem step_in (g n c s : Nat) (A : Option Addr) (hs : s ≤ n) (hn : n ≤ c) (w : World) (h : w.heap[g]? = some (.cells #[.bool true, .slice A n c] 209 (0, 0))) :
    Calls Tryz.prog 147 #[.pointer (some ⟨g, 0, none⟩), .int .i64 (s : Int)] w fun e w' => e = .returned (.tuple #[.slice A s c, .int .i64 0]) ∧ w'.heap[g]? = some (.cells #[.bool true, .slice (cutA A c s) (n - s) (c - s)] 209 (0, 0)) ∧ w.grownBy w' (some g) := by
  have hmf : ∀ (fn : Fn) (first cap : Array Value) (w : World), (Instr.makeFunc fn first cap).run Tryz.prog w = .ok (.func fn first cap) w := fun _ _ _ _ => rfl
  have hcut := fun w => run_cut n c s A hs w
  have c1 : w.cell? ⟨g, 1, none⟩ = some (.slice A n c) := by simp [World.cell?, h]
  have f1 : w.frozen? ⟨g, 1, none⟩ = false := by simp [World.frozen?, h]
  have hl := lt_of_block h
  have hl1 : g < w.heap.size + 1 := by omega
  have hl2 : g < w.heap.size + 1 + 1 := by omega
  have hl3 : g < w.heap.size + 1 + 1 + 1 := by omega
  have hl4 : g < w.heap.size + 1 + 1 + 1 + 1 := by omega
  have b1 : (s : Int) ≤ (n : Int) := by omega
  have b2 : min (s : Int) (n : Int) = (s : Int) := by omega
  have b3 : (0 : Int) ≤ (s : Int) := Int.natCast_nonneg _
  have b4 : (s : Int) ≤ (c : Int) := by omega
  have HH := Lib.hid h
  clear h
  go_enter_defers Tryz.func147, Tryz.ntmps147
  go_wp2_with fail
  go_region
  go_wp2_with fail
  have HW := Lib.hid (two_put w g n c (n - s) (c - s) A (cutA A c s) HH.out)
  refine leaves_cons (f := 156) (args := #[.pointer (some ⟨w.heap.size + 1 + 1, 0, none⟩), .pointer (some ⟨w.heap.size + 1 + 1 + 1, 0, none⟩), .pointer (some ⟨w.heap.size + 1, 0, none⟩), .pointer (some ⟨w.heap.size, 0, none⟩)]) (by simp) (by simp [go_sem]) ?_
  refine (undo_none _ _ _ _ .returning _ (by simp [go_sem])).mono ?_
  rintro e u' w'' ⟨rfl, rfl, rfl⟩
  have HK := Lib.hid (((((Keep.refl (w.setCell ⟨g, 1, none⟩ (.slice (cutA A c s) (n - s) (c - s)))).alloc #[.pointer (some ⟨g, 0, none⟩)] 177).alloc #[.slice A s c] 43).alloc #[.int .i64 0] 28).alloc #[.slice A n c] 43).drew
  refine ⟨.tuple #[.slice A s c, .int .i64 0], by simp [results, Tryz.results147, go_sem], rfl, ?_, ?_⟩
  · exact (HK.out.block g (lt_of_block HW.out.1)).trans HW.out.1
  · exact grow_then HW.out.2 HK.out
end Go.Proofs.YtgelalbmhllccaaGreat
/- Contracts of the landed code of layer 3. -/
namespace Go.Proofs.YtgelalbmhllccaaGreat
open Go.RowKit
/-- A reader at g with L left; F tells its blocks. -/
def ReadR (w : World) (F : Nat → Prop) (g : Nat) (L : List Nat) : Prop :=
  F g ∧ (∀ b, F b → b < w.heap.size) ∧ AllB L ∧ ∃ A c, w.heap[g]? = some (.cells #[.bool true, .slice A L.length c] 209 (0, 0)) ∧ (L.length ≤ c ∧ L.length ≤ 140737488355328) ∧ (0 < L.length → ∃ b off, A = some ⟨b, off, none⟩ ∧ F b ∧ b ≠ g ∧ ∀ i, i < L.length → w.cell? ⟨b, off + i, none⟩ = some (.int .u8 ((L.getD i 0 : Nat) : Int)))
theorem ReadR.at_ {w : World} {F : Nat → Prop} {g : Nat} {L : List Nat} (h : ReadR w F g L) : F g := h.1
theorem ReadR.lt {w : World} {F : Nat → Prop} {g b : Nat} {L : List Nat} (h : ReadR w F g L) (hb : F b) : b < w.heap.size := h.2.1 b hb
theorem ReadR.all {w : World} {F : Nat → Prop} {g : Nat} {L : List Nat} (h : ReadR w F g L) : AllB L := h.2.2.1
/-- What lies elsewhere may turn. -/
theorem ReadR.grown {w w' : World} {F : Nat → Prop} {g : Nat} {row : Option Nat} {L : List Nat} (h : ReadR w F g L) (k : w.grownBy w' row) (hn : ∀ b, row = some b → ¬ F b) : ReadR w' F g L := by
  obtain ⟨h1, h2, h3, A, c, h4, h5, h6⟩ := h
  have hb : ∀ b, F b → w'.heap[b]? = w.heap[b]? := fun b hb => k.block b (h2 b hb) fun e => hn b e.symm hb
  refine ⟨h1, fun b hb => Nat.lt_of_lt_of_le (h2 b hb) k.size, h3, A, c, by rw [hb g h1]; exact h4, h5, fun hp => ?_⟩
  obtain ⟨b, off, e, hf, hne, hc⟩ := h6 hp
  refine ⟨b, off, e, hf, hne, fun i hi => ?_⟩
  rw [← hc i hi]
  simp only [World.cell?, hb b hf]
theorem ReadR.keep {w w' : World} {F : Nat → Prop} {g : Nat} {L : List Nat} (h : ReadR w F g L) (k : Keep w w') : ReadR w' F g L := h.grown (row := none) ⟨k.os, k.tape, k.output, k.size, fun i hi _ => k.block i hi⟩ (fun b e => by cases e)
theorem size_yes (s : Int) (h1 : 1 ≤ s) (h8 : s ≤ 8) (w : World) : Calls Tryz.prog 146 #[.int .i64 s] w fun e w' => e = .returned (.bool true) ∧ w = w' := by
  go_enter Tryz.func146, Tryz.ntmps146
  go_wp2_with fail
  go_ret
  exact ⟨rfl, rfl⟩
theorem made_at (g : Nat) (b : Bool) (w : World) (h : w.cell? ⟨g, 0, none⟩ = some (.bool b)) : Calls Tryz.prog 145 #[.pointer (some ⟨g, 0, none⟩)] w fun e w' => e = .returned (.bool b) ∧ w = w' := by
  go_enter Tryz.func145, Tryz.ntmps145
  go_wp2_with fail
  go_ret
  exact ⟨rfl, rfl⟩
/-- A block of bytes, whole. -/
def Blk (w : World) (g : Nat) (t : TypeId) (xs : List Nat) : Prop := w.heap[g]? = some (.cells (u8s xs).toArray t (0, 0))
theorem Blk.cell {w : World} {g t i : Nat} {xs : List Nat} (h : Blk w g t xs) (hi : i < xs.length) : w.cell? ⟨g, i, none⟩ = some (.int .u8 ((xs.getD i 0 : Nat) : Int)) := by
  have h' : w.heap[g]? = some (.cells (u8s xs).toArray t (0, 0)) := h
  rw [cell_of_row w g i _ _ _ h', List.getElem?_toArray, u8s_get]
  simp [List.getD, hi]
theorem Blk.frozen {w : World} {g t : Nat} {xs : List Nat} (h : Blk w g t xs) (i : Nat) : w.frozen? ⟨g, i, none⟩ = false := by
  have h' : w.heap[g]? = some (.cells (u8s xs).toArray t (0, 0)) := h
  simp [World.frozen?, h']
theorem Blk.set {w : World} {g t i v : Nat} {xs : List Nat} (h : Blk w g t xs) : Blk (w.setCell ⟨g, i, none⟩ (.int .u8 (v : Int))) g t (xs.set i v) := by
  show _ = _
  rw [heap_setCell_same w g i _ _ _ h, ← u8s_set]
  simp
theorem Blk.bytes {w : World} {g t : Nat} {xs : List Nat} (h : Blk w g t xs) (ha : AllB xs) : Bytes w w.heap.size (some ⟨g, 0, none⟩) xs.length xs :=
  ⟨rfl, ha, fun _ => ⟨g, 0, rfl, lt_of_block h, fun i hi => by rw [Nat.zero_add]; exact h.cell hi⟩⟩
theorem wnew_any (B n c : Nat) (A : Option Addr) (xs : List Nat) (w : World) (h : Bytes w B A n xs) (hB : B ≤ w.heap.size) (hn : n ≤ 140737488355328) :
    Calls Tryz.prog 112 #[.slice A n c] w fun e w' => ∃ g F, e = .returned (.pointer (some ⟨g, 0, none⟩)) ∧ ReadR w' F g xs ∧ (∀ b, F b → w.heap.size ≤ b) ∧ Keep w w' := by
  go_enter Tryz.func112, Tryz.ntmps112
  go_wp2_with fail
  refine (clone_any B n c A xs w h hB hn).mono ?_
  rintro e w1 ⟨A1, n1, c1, rfl, o1, k1⟩
  obtain rfl : xs.length = n1 := o1.length
  have HL : Hid (xs.length ≤ 140737488355328) := by show _ ≤ _; rw [h.1]; exact hn
  have O1 := Lib.hid o1
  have K1 := Lib.hid k1
  clear o1 k1 h
  go_wp2_with fail
  go_ret
  refine ⟨w1.heap.size, fun b => b = w1.heap.size ∨ ((Value.slice A1 xs.length c1).ownBlock = some b), rfl, ⟨Or.inl rfl, ?_, O1.out.2, A1, c1, heap_alloc_new _ _, ⟨own_le O1.out, HL.out⟩, ?_⟩, ?_, K1.out.alloc _ _⟩
  · rintro b (rfl | hb)
    · simp
    · have := (O1.out.1.lt b hb).2
      simp; omega
  · intro hp
    obtain ⟨g, rfl, h1, h2⟩ := O1.out.block hp
    refine ⟨g, 0, rfl, Or.inr rfl, by omega, fun i hi => ?_⟩
    rw [Nat.zero_add]
    exact (O1.out.alloc _).cell hi
  · rintro b (rfl | hb)
    · exact K1.out.size
    · exact O1.out.rowLe b hb
/-- What is left, as bytes. -/
theorem ReadR.bytes {w : World} {g : Nat} {L : List Nat} {A : Option Addr} {F : Nat → Prop} (ha : AllB L) (hF : ∀ b, F b → b < w.heap.size)
    (h : 0 < L.length → ∃ b off, A = some ⟨b, off, none⟩ ∧ F b ∧ b ≠ g ∧ ∀ i, i < L.length → w.cell? ⟨b, off + i, none⟩ = some (.int .u8 ((L.getD i 0 : Nat) : Int))) : Bytes w w.heap.size A L.length L :=
  ⟨rfl, ha, fun hp => by
    obtain ⟨b, off, e, hb, _, hc⟩ := h hp
    exact ⟨b, off, e, hF b hb, hc⟩⟩
/-- The reader's block is given what is left of its bytes. -/
theorem ReadR.step {w w' : World} {F : Nat → Prop} {g s : Nat} {L : List Nat} {A : Option Addr} {c : Nat} (hg : F g) (hF : ∀ b, F b → b < w.heap.size) (ha : AllB L) (hc : L.length ≤ c ∧ L.length ≤ 140737488355328) (hs : s ≤ L.length)
    (h : 0 < L.length → ∃ b off, A = some ⟨b, off, none⟩ ∧ F b ∧ b ≠ g ∧ ∀ i, i < L.length → w.cell? ⟨b, off + i, none⟩ = some (.int .u8 ((L.getD i 0 : Nat) : Int)))
    (hb : w'.heap[g]? = some (.cells #[.bool true, .slice (cutA A c s) (L.length - s) (c - s)] 209 (0, 0))) (k : w.grownBy w' (some g)) : ReadR w' F g (L.drop s) := by
  refine ⟨hg, fun b h1 => Nat.lt_of_lt_of_le (hF b h1) k.size, fun x hx => ha x (List.mem_of_mem_drop hx), cutA A c s, c - s, by rw [List.length_drop]; exact hb, by rw [List.length_drop]; have := hc.1; have := hc.2; omega, fun hp => ?_⟩
  rw [List.length_drop] at hp
  have hp2 : 0 < L.length := Nat.lt_of_lt_of_le hp (Nat.sub_le _ _)
  obtain ⟨b, off, rfl, h1, h2, h3⟩ := h hp2
  clear h
  refine ⟨b, off + s, ?_, h1, h2, fun i hi => ?_⟩
  · rw [cutA, if_neg (by omega)]
    simp only [Option.map_some, Addr.add]
    split <;> simp_all
  · rw [List.length_drop] at hi
    have hi2 : s + i < L.length := by omega
    have e := h3 (s + i) hi2
    rw [← Nat.add_assoc] at e
    rw [k.cell e (by simpa using h2)]
    simp [List.getD_eq_getElem?_getD, List.getElem?_drop]
theorem wleft_any (F : Nat → Prop) (g : Nat) (L : List Nat) (w : World) (h : ReadR w F g L) :
    Calls Tryz.prog 116 #[.pointer (some ⟨g, 0, none⟩)] w fun e w' => e = .returned (.int .i64 (L.length : Int)) ∧ w = w' := by
  obtain ⟨_, _, _, A, c, h4, _, _⟩ := h
  have c0 : w.cell? ⟨g, 0, none⟩ = some (.bool true) := by simp [World.cell?, h4]
  have c1 : w.cell? ⟨g, 1, none⟩ = some (.slice A L.length c) := by simp [World.cell?, h4]
  generalize L.length = n at *
  clear h4
  go_enter Tryz.func116, Tryz.ntmps116
  go_wp2_with fail
  refine (made_at g true _ c0).mono ?_
  rintro e w1 ⟨rfl, rfl⟩
  go_wp2_with fail
  go_ret
  exact ⟨rfl, rfl⟩
theorem or_low (v x : Nat) (hx : x < 256) (h : 256 * v + x < 18446744073709551616) : bits .or .u64 ((v : Int) * 256) (x : Int) = ((256 * v + x : Nat) : Int) := by
  have e : (v : Int) * 256 = ((v * 256 : Nat) : Int) := by omega
  rw [e, u64_or_nat _ _ (by omega) (by omega), nat_join 8 _ _ (by omega) (by omega), Nat.mul_comm]
set_option maxRecDepth 100000 in
set_option maxHeartbeats 1000000 in
theorem wread_in (F : Nat → Prop) (g : Nat) (L : List Nat) (s : Nat) (h1 : 1 ≤ s) (h8 : s ≤ 8) (hs : s ≤ L.length) (w : World) (h : ReadR w F g L) :
    Calls Tryz.prog 114 #[.pointer (some ⟨g, 0, none⟩), .int .i64 (s : Int)] w fun e w' => e = .returned (.tuple #[.int .u64 (valN (L.take s) : Nat), .int .i64 0]) ∧ ReadR w' F g (L.drop s) ∧ w.grownBy w' (some g) := by
  obtain ⟨q1, q2, q3, A, c, h4, q5, q6⟩ := h
  have c0 : w.cell? ⟨g, 0, none⟩ = some (.bool true) := by simp [World.cell?, h4]
  have H4 := Lib.hid h4
  have hq : ∃ b off, A = some ⟨b, off, none⟩ ∧ F b ∧ b ≠ g ∧ ∀ i, i < L.length → w.cell? ⟨b, off + i, none⟩ = some (.int .u8 ((L.getD i 0 : Nat) : Int)) := q6 (by omega)
  have Q6 := Lib.hid q6
  have Q3 := Lib.hid q3
  have HN := Lib.hid q5
  obtain ⟨b, off, rfl, hb, hne, hc⟩ := hq
  have HC := Lib.hid hc
  clear h4 q6 q3 hc
  go_enter Tryz.func114, Tryz.ntmps114
  go_wp2_with fail
  refine (made_at g true _ c0).mono ?_
  rintro e w1 ⟨rfl, rfl⟩
  go_wp2_with fail
  refine (size_yes (s : Int) (by omega) (by omega) _).mono ?_
  rintro e w1 ⟨rfl, rfl⟩
  go_wp2_with fail
  refine (step_in g L.length c s _ hs q5.1 _ H4.out).mono ?_
  rintro e w1 ⟨rfl, b1, k1⟩
  have HB := Lib.hid b1
  have HK := Lib.hid k1
  clear b1 k1 c0
  go_wp2_with fail
  go_loop [8, 28] (fun v i => ∃ j : Nat, j ≤ s ∧ i = .int .i64 j ∧ v = .int .u64 (valN (L.take j) : Nat)) (fun _ i => s - (intOf i).toNat)
  case atStart => exact ⟨0, by omega, rfl, rfl⟩
  case round =>
    obtain ⟨j, hj, rfl, rfl⟩ := hrel
    by_cases hlt : j < s
    · have hc : w1.cell? ⟨b, off + j, none⟩ = some (.int .u8 ((L.getD j 0 : Nat) : Int)) := HK.out.cell (HC.out j (by omega)) (by simpa using hne)
      have hx : L.getD j 0 < 256 := AllB.getD Q3.out j
      have hv := valN_take_succ L j (by omega)
      have h64 := valN_lt64 L (j + 1) Q3.out (by omega)
      generalize L.getD j 0 = x at *
      obtain ⟨v, hvv⟩ : ∃ v, valN (L.take j) = v := ⟨_, rfl⟩
      rw [hv] at h64
      rw [hvv] at hv h64
      rw [hvv]
      have e1 : (0 : Int) ≤ (j : Int) := Int.natCast_nonneg _
      have e2 : (j : Int) < (s : Int) := by omega
      have HV := Lib.hid hv
      clear hv hvv
      have HO := Lib.hid (or_low v x hx h64)
      go_wp2_with fail
      rw [HO.out]
      go_round
      case rel => exact ⟨j + 1, by omega, by go_num, by rw [HV.out]⟩
      case measure => simp [intOf]; omega
    · obtain rfl : s = j := by omega
      go_wp2_with fail
      go_ret2
      exact ⟨rfl, ReadR.step q1 q2 Q3.out HN.out hs Q6.out HB.out HK.out, HK.out⟩
set_option maxRecDepth 100000 in
theorem wtake_in (F : Nat → Prop) (g : Nat) (L : List Nat) (s : Nat) (hs : s ≤ L.length) (hn : s ≤ 140737488355328) (w : World) (h : ReadR w F g L) :
    Calls Tryz.prog 115 #[.pointer (some ⟨g, 0, none⟩), .int .i64 (s : Int)] w fun e w' => ∃ A n c, e = .returned (.tuple #[.slice A n c, .int .i64 0]) ∧ Own w' w.heap.size 5 A n c (L.take s) ∧
      (ReadR w' F g (L.drop s) ∧ ∀ b, (Value.slice A n c).ownBlock = some b → ¬ F b) ∧ w.grownBy w' (some g) := by
  obtain ⟨q1, q2, q3, A, c, h4, q5, q6⟩ := h
  have c0 : w.cell? ⟨g, 0, none⟩ = some (.bool true) := by simp [World.cell?, h4]
  have H4 := Lib.hid h4
  have Q6 := Lib.hid q6
  have Q3 := Lib.hid q3
  have HN := Lib.hid q5
  have e0 : ¬ (s : Int) < 0 := by omega
  clear h4 q6 q3
  go_enter Tryz.func115, Tryz.ntmps115
  go_wp2_with fail
  refine (made_at g true _ c0).mono ?_
  rintro e w1 ⟨rfl, rfl⟩
  go_wp2_with fail
  refine (step_in g L.length c s _ hs q5.1 _ H4.out).mono ?_
  rintro e w1 ⟨rfl, b1, k1⟩
  have HB := Lib.hid b1
  have HK := Lib.hid k1
  have HR := Lib.hid (ReadR.step q1 q2 Q3.out HN.out hs Q6.out b1 k1)
  have hby : Bytes w1 w1.heap.size A s (L.take s) := by
    have e := (ReadR.bytes Q3.out q2 Q6.out).cut hs
    refine ⟨e.1, e.2.1, fun hp => ?_⟩
    have hp2 : 0 < L.length := by omega
    obtain ⟨b, off, ea, hb, hne, hc⟩ := Q6.out hp2
    refine ⟨b, off, ea, Nat.lt_of_lt_of_le (q2 b hb) k1.size, fun i hi => ?_⟩
    have hi2 : i < L.length := by omega
    rw [k1.cell (hc i hi2) (by simpa using hne)]
    simp [List.getD_eq_getElem?_getD, hi]
  have HY := Lib.hid hby
  clear b1 k1 c0 hby
  go_wp2_with fail
  refine (clone_any _ s c A _ _ HY.out (Nat.le_refl _) hn).mono ?_
  rintro e w2 ⟨A2, n2, c2, rfl, o2, k2⟩
  have HO := Lib.hid o2
  have HK2 := Lib.hid k2
  clear o2 k2
  go_wp2_with fail
  go_ret2
  refine ⟨A2, n2, c2, rfl, HO.out.lower HK.out.size, ⟨HR.out.keep HK2.out, fun b hb hf => ?_⟩, grow_then HK.out HK2.out⟩
  have h1 := HO.out.rowLe b hb
  have h2 := q2 b hf
  have h3 := HK.out.size
  omega
end Go.Proofs.YtgelalbmhllccaaGreat
