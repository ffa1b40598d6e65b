/- Relays side by side in memory. -/
import Derived.Test.YtcjjhblgejkkeaaGreatRl
namespace Go.Proofs.YtcjjhblgejkkeaaGreat
open Go.RowKit Lin
set_option linter.unusedVariables false
/-- One of several relays. -/
structure RelS where
  p : Nat
  F : Nat → Prop
  b : Nat
  L : Nat → List (List Nat)
/-- m relays of g, s and width k, all made since W; what lies in blocks of D is none of theirs. -/
structure RlN (W w : World) (m g s k : Nat) (R : Nat → RelS) (D : Nat → Prop) : Prop where
  rel : ∀ i, i < m → RelR w (R i).F (R i).p g s k (R i).b (R i).L
  ap : ∀ i j, i < m → j < m → i ≠ j → ∀ x, (R i).F x → ¬ (R j).F x
  lo : ∀ i, i < m → ∀ x, (R i).F x → W.heap.size ≤ x
  d : ∀ x, D x → x < w.heap.size ∧ ∀ i, i < m → ¬ (R i).F x
  keep : Keep W w
/-- One of them is another now. -/
def updR (R : Nat → RelS) (i : Nat) (r : RelS) : Nat → RelS := fun j => if j = i then r else R j
theorem updR_at (R : Nat → RelS) (i : Nat) (r : RelS) : updR R i r i = r := if_pos rfl
theorem updR_ne (R : Nat → RelS) {i j : Nat} (r : RelS) (h : j ≠ i) : updR R i r j = R j := if_neg h
namespace RlN
variable {W w w2 : World} {m g s k : Nat} {R : Nat → RelS} {D G : Nat → Prop}
theorem start (W : World) (R : Nat → RelS) : RlN W W 0 g s k R fun _ => False := ⟨fun i h => by omega, fun i j h => by omega, fun i h => by omega, fun x h => h.elim, Keep.refl W⟩
theorem lt (h : RlN W w m g s k R D) {i : Nat} (hi : i < m) : ∀ x, (R i).F x → x < w.heap.size := (h.rel i hi).lt
theorem later (h : RlN W w m g s k R D) (kp : Keep w w2) : RlN W w2 m g s k R D :=
  ⟨fun i hi => (h.rel i hi).keep kp, h.ap, h.lo, fun x hx => ⟨Nat.lt_of_lt_of_le (h.d x hx).1 kp.size, (h.d x hx).2⟩, h.keep.trans kp⟩
/-- New memory is looked after, too. -/
theorem widen (h : RlN W w m g s k R D) (kp : Keep w w2) : RlN W w2 m g s k R fun x => D x ∨ (w.heap.size ≤ x ∧ x < w2.heap.size) :=
  ⟨fun i hi => (h.rel i hi).keep kp, h.ap, h.lo, fun x hx => by
    rcases hx with e | e
    · exact ⟨Nat.lt_of_lt_of_le (h.d x e).1 kp.size, (h.d x e).2⟩
    · exact ⟨e.2, fun i hi hf => by have := h.lt hi x hf; omega⟩, h.keep.trans kp⟩
/-- Less is looked after. -/
theorem narrow (h : RlN W w m g s k R D) {D' : Nat → Prop} (hD : ∀ x, D' x → D x) : RlN W w m g s k R D' := ⟨h.rel, h.ap, h.lo, fun x hx => h.d x (hD x hx), h.keep⟩
/-- Something else has turned. -/
theorem other (h : RlN W w m g s k R D) (t : Turned G w w2) (hG : ∀ x, G x → W.heap.size ≤ x ∧ ∀ i, i < m → ¬ (R i).F x) : RlN W w2 m g s k R D :=
  ⟨fun i hi => (h.rel i hi).turned t fun x hx e => (hG x e).2 i hi hx, h.ap, h.lo, fun x hx => ⟨Nat.lt_of_lt_of_le (h.d x hx).1 t.size, (h.d x hx).2⟩, t.keep h.keep fun x e => (hG x e).1⟩
/-- One of them has turned. -/
theorem put (h : RlN W w m g s k R D) {i : Nat} (hi : i < m) {F' : Nat → Prop} {b' : Nat} {L' : Nat → List (List Nat)} (r : RelR w2 F' (R i).p g s k b' L') (f : ∀ x, F' x → (R i).F x ∨ w.heap.size ≤ x) (t : Turned (R i).F w w2) :
    RlN W w2 m g s k (updR R i ⟨(R i).p, F', b', L'⟩) D := by
  refine ⟨fun j hj => ?_, fun j l hj hl hjl x hx hy => ?_, fun j hj x hx => ?_, fun x hx => ⟨Nat.lt_of_lt_of_le (h.d x hx).1 t.size, fun j hj hy => ?_⟩, t.keep h.keep fun x e => h.lo i hi x e⟩
  · by_cases e : j = i
    · subst e; rw [updR_at]; exact r
    · rw [updR_ne _ _ e]; exact (h.rel j hj).turned t fun x hx hy => h.ap j i hj hi e x hx hy
  · by_cases e : j = i
    · subst e
      rw [updR_at] at hx
      rw [updR_ne _ _ fun e => hjl e.symm] at hy
      rcases f x hx with e2 | e2
      · exact h.ap j l hj hl hjl x e2 hy
      · have := h.lt hl x hy; omega
    · rw [updR_ne _ _ e] at hx
      by_cases e2 : l = i
      · subst e2
        rw [updR_at] at hy
        rcases f x hy with e3 | e3
        · exact h.ap j l hj hl hjl x hx e3
        · have := h.lt hj x hx; omega
      · rw [updR_ne _ _ e2] at hy
        exact h.ap j l hj hl hjl x hx hy
  · by_cases e : j = i
    · subst e
      rw [updR_at] at hx
      rcases f x hx with e2 | e2
      · exact h.lo j hj x e2
      · have := h.keep.size; omega
    · rw [updR_ne _ _ e] at hx; exact h.lo j hj x hx
  · by_cases e : j = i
    · subst e
      rw [updR_at] at hy
      rcases f x hy with e2 | e2
      · exact (h.d x hx).2 j hj e2
      · have := (h.d x hx).1; omega
    · rw [updR_ne _ _ e] at hy; exact (h.d x hx).2 j hj hy
/-- Another one stands in the place of one, or behind the last. -/
theorem set (h : RlN W w m g s k R D) {i m' : Nat} {p' b' : Nat} {F' : Nat → Prop} {L' : Nat → List (List Nat)} (r : RelR w2 F' p' g s k b' L') (f : ∀ x, F' x → w.heap.size ≤ x) (kp : Keep w w2) (hm : ∀ j, j < m' → j = i ∨ j < m) :
    RlN W w2 m' g s k (updR R i ⟨p', F', b', L'⟩) D := by
  have hs := h.keep.size
  have old : ∀ j, j < m' → j ≠ i → j < m := fun j hj e => (hm j hj).resolve_left e
  refine ⟨fun j hj => ?_, fun j l hj hl hjl x hx hy => ?_, fun j hj x hx => ?_, fun x hx => ⟨Nat.lt_of_lt_of_le (h.d x hx).1 kp.size, fun j hj hy => ?_⟩, h.keep.trans kp⟩
  · by_cases e : j = i
    · subst e; rw [updR_at]; exact r
    · rw [updR_ne _ _ e]; exact (h.rel j (old j hj e)).keep kp
  · by_cases e : j = i
    · subst e
      rw [updR_at] at hx
      have e2 : l ≠ j := fun e => hjl e.symm
      rw [updR_ne _ _ e2] at hy
      have := h.lt (old l hl e2) x hy
      have := f x hx; omega
    · rw [updR_ne _ _ e] at hx
      by_cases e2 : l = i
      · subst e2
        rw [updR_at] at hy
        have := h.lt (old j hj e) x hx
        have := f x hy; omega
      · rw [updR_ne _ _ e2] at hy
        exact h.ap j l (old j hj e) (old l hl e2) hjl x hx hy
  · by_cases e : j = i
    · subst e
      rw [updR_at] at hx
      have := f x hx; omega
    · rw [updR_ne _ _ e] at hx; exact h.lo j (old j hj e) x hx
  · by_cases e : j = i
    · subst e
      rw [updR_at] at hy
      have := f x hy
      have := (h.d x hx).1; omega
    · rw [updR_ne _ _ e] at hy; exact (h.d x hx).2 j (old j hj e) hy
/-- Fewer are looked after. -/
theorem fewer (h : RlN W w m g s k R D) {m' : Nat} (hm : m' ≤ m) : RlN W w m' g s k R D :=
  ⟨fun i hi => h.rel i (by omega), fun i j hi hj => h.ap i j (by omega) (by omega), fun i hi => h.lo i (by omega), fun x hx => ⟨(h.d x hx).1, fun i hi => (h.d x hx).2 i (by omega)⟩, h.keep⟩
theorem fine (h : RlN W w m g s k R D) {i : Nat} (hi : i < m) : 1 ≤ g ∧ g ≤ 255 ∧ 1 ≤ s ∧ s ≤ 65535 ∧ 1 ≤ k ∧ k ≤ 16 ∧ (R i).b ≤ topN := (h.rel i hi).fine
end RlN
end Go.Proofs.YtcjjhblgejkkeaaGreat
