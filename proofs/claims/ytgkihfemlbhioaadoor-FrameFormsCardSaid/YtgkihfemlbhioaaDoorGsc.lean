/- A scope in which the run jumps on, from label to label. -/
import Derived.ScopeJumps
import Derived.WalkMore
namespace Go.Proofs.YtgkihfemlbhioaaDoor
open Go
section
variable {P : Program} {a : Act} {w : World} {Q : Exit → Act → World → Prop}
/-- As Q; by a goto: what stands behind the label, with one jump less to come. -/
def GotoQ (P : Program) (c : Code) (Q : Exit → Act → World → Prop) : Nat → Exit → Act → World → Prop
  | 0 => Exit.noGoto Q
  | k + 1 => fun e a w => match e with
    | .goto l => ∃ rest, findLabel c l = some rest ∧ rest.wp P (GotoQ P c Q k) a w
    | e => Q e a w
theorem wp_scope_goto {c : Code} (k : Nat) (h : c.wp P (GotoQ P c Q k) a w) : (Code.scope c).wp P Q a w := by
  intro b ks cs
  have key : ∀ k a w (rest : Code), rest.wp P (GotoQ P c Q k) a w → ∃ e a' w', Q e a' w' ∧ Arrives P (lone (b.at a (.code rest :: .inScope c :: ks)) cs w) b ks cs e a' w' := by
    intro k
    induction k with
    | zero =>
      intro a w rest hr
      obtain ⟨e, a₁, w₁, hq, harr⟩ := hr b (.inScope c :: ks) cs
      cases e with
      | normal => exact ⟨.normal, a₁, w₁, hq, Steps.trans harr (.one step_inScope)⟩
      | exit id => exact ⟨.exit id, a₁, w₁, hq, fun k' hk => harr k' (by simp [exitTo, hk])⟩
      | goto l => exact hq.elim
      | ret => exact ⟨_, a₁, w₁, hq, harr⟩
      | panic ch => exact ⟨_, a₁, w₁, hq, harr⟩
      | outgrown => exact ⟨_, a₁, w₁, hq, harr⟩
    | succ k ih =>
      intro a w rest hr
      obtain ⟨e, a₁, w₁, hq, harr⟩ := hr b (.inScope c :: ks) cs
      cases e with
      | normal => exact ⟨.normal, a₁, w₁, hq, Steps.trans harr (.one step_inScope)⟩
      | exit id => exact ⟨.exit id, a₁, w₁, hq, fun k' hk => harr k' (by simp [exitTo, hk])⟩
      | goto l =>
        obtain ⟨rest', hf, hr'⟩ := hq
        have hg : gotoIn l (.inScope c :: ks) = some (.code rest' :: .inScope c :: ks) := by simp [gotoIn, hf]
        obtain ⟨e₂, a₂, w₂, hq₂, harr₂⟩ := ih a₁ w₁ rest' hr'
        exact ⟨e₂, a₂, w₂, hq₂, .of_steps (harr _ hg) harr₂⟩
      | ret => exact ⟨_, a₁, w₁, hq, harr⟩
      | panic ch => exact ⟨_, a₁, w₁, hq, harr⟩
      | outgrown => exact ⟨_, a₁, w₁, hq, harr⟩
  obtain ⟨e, a', w', hq, harr⟩ := key k a w c h
  exact ⟨e, a', w', hq, .of_steps (.one step_scope) harr⟩
/-- A goto is taken. -/
theorem gotoQ_goto {c rest : Code} {k l : Nat} (hf : findLabel c l = some rest) (h : rest.wp P (GotoQ P c Q k) a w) : GotoQ P c Q (k + 1) (.goto l) a w := ⟨rest, hf, h⟩
theorem gotoQ_ret {c : Code} {k : Nat} : GotoQ P c Q (k + 1) .ret a w = Q .ret a w := rfl
theorem gotoQ_normal {c : Code} {k : Nat} : GotoQ P c Q (k + 1) .normal a w = Q .normal a w := rfl
end
end Go.Proofs.YtgkihfemlbhioaaDoor
