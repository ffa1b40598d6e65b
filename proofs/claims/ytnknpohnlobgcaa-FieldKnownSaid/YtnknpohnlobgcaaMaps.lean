/- Which powers of 3 have been seen: the map of FieldKnown, as a datum. -/
import Derived.Test.YtnknpohnlobgcaaPlain
import Derived.Maps.OwnSet
import Derived.RowKit3
namespace Go.Proofs.Ytnknpohnlobgcaa
open Go.RowKit Go.Maps

def keyAt (i : Nat) : Lit := .int .u8 ((pw i : Nat) : Int)
def seenN : Nat → DataW Unit
  | 0 => .map []
  | k + 1 => (seenN k).put (keyAt k) (.lit (.int .i64 1))
theorem keyAt_key (i : Nat) : WideAt.IsKeyLit (keyAt i) := by
  have h := pw_lt i
  simp [WideAt.IsKeyLit, keyAt]
theorem seenN_tidy (k : Nat) : Tidy (seenN k) := by
  induction k with
  | zero => exact tidy_empty
  | succ k ih => exact ih.put (keyAt_key k) _
theorem keyAt_ne {i j : Nat} (hi : i < 255) (hj : j < 255) (h : i ≠ j) : keyAt i ≠ keyAt j := by
  intro e
  have e2 : ((pw i : Nat) : Int) = ((pw j : Nat) : Int) := by injection e
  have e3 := pw_inj (Int.ofNat.inj e2)
  rw [Nat.mod_eq_of_lt hi, Nat.mod_eq_of_lt hj] at e3
  exact h e3
theorem seenN_has (k : Nat) (hk : k ≤ 255) : ∀ j, k ≤ j → j < 255 → Maps.has (seenN k) (keyAt j) = false := by
  induction k with
  | zero => intro j _ _; rfl
  | succ k ih =>
    intro j h1 h2
    rw [seenN, has_put_other (keyAt_ne h2 (by omega) (by omega))]
    exact ih (by omega) j (by omega) h2
theorem seenN_at (k : Nat) (hk : k < 255) (z : DataW Unit) : (seenN k).atKey (keyAt k) z = z := atKey_of_not_has (seenN_has k (by omega) k (by omega) hk) z
theorem seenN_size (k : Nat) (hk : k ≤ 255) : Maps.size (seenN k) = k := by
  induction k with
  | zero => rfl
  | succ k ih => rw [seenN, size_put (seenN_tidy k), seenN_has k (by omega) k (by omega) (by omega), ih (by omega)]; rfl

theorem ownsMap_grown {H : Type} {P : Program} {k : TypeId} {R : Value → Option (DataW H × List MemPlace)} {w w' : World} {b n : Nat} {D : DataW H} (h : w.ownsMap P k R b n D) (g : Grown w w') : w'.ownsMap P k R b n D := by
  have hlt := h.lt
  obtain ⟨es, clock, hb, F, hs, hD⟩ := h
  have h1 := g.1.2.2 b hlt
  rw [hb] at h1
  refine ⟨es, clock, ?_, F, hs, hD⟩
  cases hc : w'.heap[b]? with
  | none => rw [hc] at h1; simp at h1
  | some o =>
    rw [hc] at h1
    cases o with
    | cells c t fr => simp at h1
    | map es' clock' =>
      simp at h1
      rw [h1.1, h1.2]
    | _ => simp at h1
theorem Grown_turned {W w w' : World} {b : Nat} (h : Grown W w) (hb : W.heap.size ≤ b) (t : w.mapTurned w' b) : Grown W w' := by
  have hf := t.frozen
  obtain ⟨es, clock, es', clock', hw, rfl⟩ := t
  obtain ⟨⟨h1, h2, h3⟩, h4, h5⟩ := h
  refine ⟨⟨h1, h2, fun i hi => ?_⟩, fun x => (hf x).trans (h4 x), by simpa [Go.ChangeMaps.setBlock] using h5⟩
  rw [Go.ChangeMaps.heap_setBlock_other hw _ (by omega)]
  exact h3 i hi
end Go.Proofs.Ytnknpohnlobgcaa
