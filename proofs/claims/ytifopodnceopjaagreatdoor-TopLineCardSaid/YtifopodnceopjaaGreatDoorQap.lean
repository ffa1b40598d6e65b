/- A region that draws its order, whose stores come late: what is held need hold only until a late operation has come up. -/
import Derived.Deep.RegionHeld3
import Derived.Tactics
import Derived.ScopeJumps
import Derived.WalkMore
import Derived.Test.YtifopodnceopjaaGreatDoorQaa
import Derived.Test.YtifopodnceopjaaGreatDoorQai
namespace Go.Proofs.YtifopodnceopjaaGreatDoor
set_option linter.unusedVariables false
set_option linter.unusedSimpArgs false
section
variable {P : Program} {md : Region.Mode} {ops : Array Oper} {Q : Exit → Act → World → Prop} {S : World → Prop} {ls : List Nat}
/-- A late operation has come up. -/
def Late (ls : List Nat) (got : Array Bool) : Prop := ∃ t ∈ ls, got.getD t false = true
theorem Late.more {got : Array Bool} {i : Nat} (h : Late ls got) : Late ls (got.setIfInBounds i true) := by
  obtain ⟨t, a, b⟩ := h
  exact ⟨t, a, getD_set_true b⟩
theorem Late.less {got : Array Bool} {i j : Nat} (hi : i ∉ ls) (h : Late ls ((got.setIfInBounds i true).setIfInBounds j true)) : Late ls (got.setIfInBounds j true) := by
  obtain ⟨t, a, b⟩ := h
  refine ⟨t, a, ?_⟩
  have hti : i ≠ t := fun e => hi (e ▸ a)
  by_cases hij : j = i
  · subst hij
    rw [getD_set_ne _ hti] at b
    exact b
  · rw [Array.setIfInBounds_comm _ _ (Ne.symm hij)] at b
    rwa [getD_set_ne _ hti] at b
/-- In whatever order; what is held stands until a late operation has come up. -/
def wpTill (P : Program) (md : Region.Mode) (ops : Array Oper) (Q : Exit → Act → World → Prop) (S : World → Prop) (ls : List Nat) : Nat → Array Bool → Act → World → Prop
  | 0, got, a, w => Region.ready md ops got = [] ∧ Q .normal a w
  | n + 1, got, a, w => (Region.ready md ops got = [] → Q .normal a w) ∧ ∀ i ∈ Region.ready md ops got, wpOp P ops Q i (fun a' w' => (Late ls (got.setIfInBounds i true) ∨ S w') ∧ wpTill P md ops Q S ls n (got.setIfInBounds i true) a' w') a w
theorem wpAny_of_till : ∀ (n : Nat) (got : Array Bool) (a : Act) (w : World), wpTill P md ops Q S ls n got a w → wpAny P md ops Q n got a w
  | 0, _, _, _, h => h
  | n + 1, _, _, _, h => ⟨h.1, fun i hi => wpOp_mono (fun a' w' k => wpAny_of_till n _ a' w' k.2) (h.2 i hi)⟩
/-- A region begun so. -/
theorem wp_region_till {id : Nat} {a : Act} {w : World} (ls : List Nat) (S : World → Prop) (hm : P.follows .mixedOrders = true) (h : wpTill P .any ops Q S ls ops.size (Array.replicate ops.size false) a w.drew) : (Code.region id ops true).wp P Q a w :=
  wp_region_any hm (wpAny_of_till _ _ _ _ h)
/-- Once a late one alone may come up, nothing is held. -/
theorem wpTill_late : ∀ {n : Nat} {got : Array Bool} {a : Act} {w : World}, Late ls got → wpAnyH P md ops Q (fun _ => True) n got a w → wpTill P md ops Q S ls n got a w
  | 0, _, _, _, _, h => h
  | n + 1, _, _, _, hl, h => ⟨h.1, fun i hi => wpOp_mono (fun a' w' k => ⟨Or.inl hl.more, wpTill_late hl.more k.2⟩) (h.2 i hi)⟩
theorem wpTill_turn {n t : Nat} {got : Array Bool} {a : Act} {w : World} (hr : Region.ready md ops got = [t]) (ht : ls.contains t = true) (hb : decide (t < got.size) = true) (h : wpAnyH P md ops Q (fun _ => True) (n + 1) got a w) : wpTill P md ops Q S ls (n + 1) got a w := by
  refine ⟨h.1, fun i hi => ?_⟩
  have hit : i = t := by rw [hr] at hi; simpa using hi
  subst hit
  have hL : Late ls (got.setIfInBounds i true) := ⟨i, by simpa using ht, by
    have hb := of_decide_eq_true hb
    simp [Array.getD, hb]⟩
  exact wpOp_mono (fun a' w' k => ⟨Or.inl hL, wpTill_late hL k.2⟩) (h.2 i hi)
/-- Does each late operation wait for i, none of them come up yet? -/
def lateB (md : Region.Mode) (ops : Array Oper) (ls : List Nat) (got : Array Bool) (i : Nat) : Bool :=
  ls.all fun t => (!got.getD t false) && (t != i) && match ops[t]? with
    | some o => o.after.any fun e => Region.binds md e && e.on == i
    | none => false
/-- A read that each late operation waits for is taken first. -/
theorem wpTill_read {i : Nat} {oi : Oper} {v : Value} (hi : ops[i]? = some oi) (hsel : ∀ (j : Nat) (o : Oper) cs b, ops[j]? = some o → o.op ≠ .select cs b) (hQ : ∀ c a w, Q (.panic c) (a.put oi.dst v) w → Q (.panic c) a w) :
    ∀ (n : Nat) (got : Array Bool) (a : Act) (w : World),
      (∀ j oj, ops[j]? = some oj → j ≠ i → got.getD j true = false → (∀ e ∈ oj.after, Region.binds md e = true → e.on ≠ i) → oi.apart ops oj = true) →
      (∀ t ∈ ls, got.getD t false = false ∧ t ≠ i ∧ ∀ o, ops[t]? = some o → ∃ e ∈ o.after, Region.binds md e = true ∧ e.on = i) →
      i ∈ Region.ready md ops got → YieldsIf P ops S oi v a → S w →
      wpTill P md ops Q S ls n (got.setIfInBounds i true) (a.put oi.dst v) w → wpTill P md ops Q S ls (n + 1) got a w := by
  intro n
  induction n with
  | zero =>
    intro got a w _ _ hr hy hS H
    refine ⟨fun h => absurd (h ▸ hr) (by simp), fun j hj => ?_⟩
    by_cases e : j = i
    · subst e; exact hy.wpOp hi hS ⟨Or.inr hS, H⟩
    · exact absurd (H.1 ▸ ready_mono hj e) (by simp)
  | succ n ih =>
    intro got a w hap hlt hr hy hS H
    refine ⟨fun h => absurd (h ▸ hr) (by simp), fun j hj => ?_⟩
    by_cases e : j = i
    · subst e; exact hy.wpOp hi hS ⟨Or.inr hS, H⟩
    · have hnext := H.2 j (ready_mono hj e)
      obtain ⟨hjg, oj, hoj, hwait⟩ := mem_ready.1 hj
      have hig := (mem_ready.1 hr).1
      have hif : got.getD i false = false := by
        cases hq : got.getD i false with
        | false => rfl
        | true =>
          rcases Nat.lt_or_ge i got.size with hb | hb
          · simp [Array.getD, hb] at hig hq; rw [hig] at hq; cases hq
          · simp [Array.getD, Nat.not_lt.2 hb] at hq
      have hno : ∀ x ∈ oj.after, Region.binds md x = true → x.on ≠ i := fun x hx hb he => by
        have := hwait x hx hb
        rw [he, hif] at this; cases this
      have hjl : j ∉ ls := fun hm => by
        obtain ⟨x, hx, hb, he⟩ := (hlt j hm).2.2 oj hoj
        exact hno x hx hb he
      have hswap := wpOp_putIf hoj (hap j oj hoj e hjg hno) (fun cs b => hsel i oi cs b hi) (fun cs b => hsel j oj cs b hoj) hQ hy hnext
      have hnl : ¬ Late ls ((got.setIfInBounds i true).setIfInBounds j true) := fun ⟨t, ht, hv⟩ => by
        have h1 := hlt t ht
        have hjt : j ≠ t := fun q => hjl (q ▸ ht)
        rw [getD_set_ne _ hjt, getD_set_ne _ (Ne.symm h1.2.1), h1.1] at hv
        cases hv
      refine wpOp_mono (fun a' w' k => ?_) hswap
      have hSw : S w' := k.2.1.resolve_left hnl
      refine ⟨Or.inr hSw, ih (got.setIfInBounds j true) a' w' (fun m om hm hmi hmg hmw => hap m om hm hmi ?_ hmw) (fun t ht => ⟨?_, (hlt t ht).2⟩) (ready_mono hr (Ne.symm e)) k.1 hSw ?_⟩
      · by_cases q : j = m
        · subst q; exact hjg
        · rwa [getD_set_ne true q] at hmg
      · have hjt : j ≠ t := fun q => hjl (by rw [q]; exact ht)
        rw [getD_set_ne _ hjt]; exact (hlt t ht).1
      · rw [Array.setIfInBounds_comm _ _ e]; exact k.2.2
/-- What yields in every world is taken first. -/
theorem wpTill_pure {i : Nat} {oi : Oper} {v : Value} (hi : ops[i]? = some oi) (hsel : ∀ (j : Nat) (o : Oper) cs b, ops[j]? = some o → o.op ≠ .select cs b) (hQ : ∀ c a w, Q (.panic c) (a.put oi.dst v) w → Q (.panic c) a w) (hil : i ∉ ls) :
    ∀ (n : Nat) (got : Array Bool) (a : Act) (w : World),
      (∀ j oj, ops[j]? = some oj → j ≠ i → got.getD j true = false → (∀ e ∈ oj.after, Region.binds md e = true → e.on ≠ i) → oi.apart ops oj = true) →
      i ∈ Region.ready md ops got → YieldsIf P ops (fun _ => True) oi v a → (Late ls got ∨ S w) →
      wpTill P md ops Q S ls n (got.setIfInBounds i true) (a.put oi.dst v) w → wpTill P md ops Q S ls (n + 1) got a w := by
  intro n
  induction n with
  | zero =>
    intro got a w _ hr hy hS H
    refine ⟨fun h => absurd (h ▸ hr) (by simp), fun j hj => ?_⟩
    by_cases e : j = i
    · subst e; exact hy.wpOp hi trivial ⟨hS.imp Late.more id, H⟩
    · exact absurd (H.1 ▸ ready_mono hj e) (by simp)
  | succ n ih =>
    intro got a w hap hr hy hS H
    refine ⟨fun h => absurd (h ▸ hr) (by simp), fun j hj => ?_⟩
    by_cases e : j = i
    · subst e; exact hy.wpOp hi trivial ⟨hS.imp Late.more id, H⟩
    · have hnext := H.2 j (ready_mono hj e)
      obtain ⟨hjg, oj, hoj, hwait⟩ := mem_ready.1 hj
      have hig := (mem_ready.1 hr).1
      have hif : got.getD i false = false := by
        cases hq : got.getD i false with
        | false => rfl
        | true =>
          rcases Nat.lt_or_ge i got.size with hb | hb
          · simp [Array.getD, hb] at hig hq; rw [hig] at hq; cases hq
          · simp [Array.getD, Nat.not_lt.2 hb] at hq
      have hno : ∀ x ∈ oj.after, Region.binds md x = true → x.on ≠ i := fun x hx hb he => by
        have := hwait x hx hb
        rw [he, hif] at this; cases this
      have hswap := wpOp_putIf hoj (hap j oj hoj e hjg hno) (fun cs b => hsel i oi cs b hi) (fun cs b => hsel j oj cs b hoj) hQ hy hnext
      refine wpOp_mono (fun a' w' k => ?_) hswap
      have hSw : Late ls (got.setIfInBounds j true) ∨ S w' := k.2.1.imp (Late.less hil) id
      refine ⟨hSw, ih (got.setIfInBounds j true) a' w' (fun m om hm hmi hmg hmw => hap m om hm hmi ?_ hmw) (ready_mono hr (Ne.symm e)) k.1 hSw ?_⟩
      · by_cases q : j = m
        · subst q; exact hjg
        · rwa [getD_set_ne true q] at hmg
      · rw [Array.setIfInBounds_comm _ _ e]; exact k.2.2
theorem lateB_spec {got : Array Bool} {i : Nat} (h : lateB md ops ls got i = true) : ∀ t ∈ ls, got.getD t false = false ∧ t ≠ i ∧ ∀ o, ops[t]? = some o → ∃ e ∈ o.after, Region.binds md e = true ∧ e.on = i := fun t ht => by
  have := List.all_eq_true.1 h t ht
  simp only [Bool.and_eq_true, Bool.not_eq_true', bne_iff_ne, ne_eq] at this
  obtain ⟨⟨h1, h2⟩, h3⟩ := this
  refine ⟨h1, h2, fun o ho => ?_⟩
  rw [ho] at h3
  obtain ⟨e, he, hb⟩ := Array.any_eq_true'.1 h3
  simp only [Bool.and_eq_true, beq_iff_eq] at hb
  exact ⟨e, he, hb.1, hb.2⟩
/-- For walks: a read. -/
theorem wpTill_take {i : Nat} {oi : Oper} {v : Value} {n : Nat} {got : Array Bool} {a : Act} {w : World} (hi : ops[i]? = some oi) (hs : Region.noSelect ops = true) (hf : Region.free md ops got i = true) (hr : (Region.ready md ops got).contains i = true) (hl : lateB md ops ls got i = true)
    (hQ : ∀ c a w, Q (.panic c) (a.put oi.dst v) w → Q (.panic c) a w) (hy : YieldsIf P ops S oi v a) (hS : S w) (h : wpTill P md ops Q S ls n (got.setIfInBounds i true) (a.put oi.dst v) w) : wpTill P md ops Q S ls (n + 1) got a w :=
  wpTill_read hi (Region.noSelect_spec hs) hQ n got a w (Region.free_spec hi hf) (lateB_spec hl) (by simpa using hr) hy hS h
/-- .. what reads nothing. -/
theorem wpTill_free {i : Nat} {oi : Oper} {v : Value} {n : Nat} {got : Array Bool} {a : Act} {w : World} (hi : ops[i]? = some oi) (hs : Region.noSelect ops = true) (hf : Region.free md ops got i = true) (hr : (Region.ready md ops got).contains i = true) (hl : (!ls.contains i) = true)
    (hQ : ∀ c a w, Q (.panic c) (a.put oi.dst v) w → Q (.panic c) a w) (hy : YieldsIf P ops (fun _ => True) oi v a) (hS : S w) (h : wpTill P md ops Q S ls n (got.setIfInBounds i true) (a.put oi.dst v) w) : wpTill P md ops Q S ls (n + 1) got a w :=
  wpTill_pure hi (Region.noSelect_spec hs) hQ (by simpa using hl) n got a w (Region.free_spec hi hf) (by simpa using hr) hy (Or.inr hS) h
end
end Go.Proofs.YtifopodnceopjaaGreatDoor
/- A scope in which the run jumps on, from label to label. -/
namespace Go.Proofs.YtifopodnceopjaaGreatDoor
open Go
section
variable {P : Program} {a : Act} {w : World} {Q : Exit → Act → World → Prop}
/-- As Q; by a goto: what stands behind the label, with one jump less to come. -/
def GotoQ (P : Program) (c : Code) (Q : Exit → Act → World → Prop) : Nat → Exit → Act → World → Prop
  | 0 => Exit.noGoto Q
  | k + 1 => fun e a w => match e with
    | .goto l => ∃ rest, findLabel c l = some rest ∧ rest.wp P (GotoQ P c Q k) a w
    | e => Q e a w
theorem wp_scope_goto {c : Code} (k : Nat) (h : c.wp P (GotoQ P c Q k) a w) : (Code.scope c).wp P Q a w := by
  intro b ks cs
  have key : ∀ k a w (rest : Code), rest.wp P (GotoQ P c Q k) a w → ∃ e a' w', Q e a' w' ∧ Arrives P (lone (b.at a (.code rest :: .inScope c :: ks)) cs w) b ks cs e a' w' := by
    intro k
    induction k with
    | zero =>
      intro a w rest hr
      obtain ⟨e, a₁, w₁, hq, harr⟩ := hr b (.inScope c :: ks) cs
      cases e with
      | normal => exact ⟨.normal, a₁, w₁, hq, Steps.trans harr (.one step_inScope)⟩
      | exit id => exact ⟨.exit id, a₁, w₁, hq, fun k' hk => harr k' (by simp [exitTo, hk])⟩
      | goto l => exact hq.elim
      | ret => exact ⟨_, a₁, w₁, hq, harr⟩
      | panic ch => exact ⟨_, a₁, w₁, hq, harr⟩
      | outgrown => exact ⟨_, a₁, w₁, hq, harr⟩
    | succ k ih =>
      intro a w rest hr
      obtain ⟨e, a₁, w₁, hq, harr⟩ := hr b (.inScope c :: ks) cs
      cases e with
      | normal => exact ⟨.normal, a₁, w₁, hq, Steps.trans harr (.one step_inScope)⟩
      | exit id => exact ⟨.exit id, a₁, w₁, hq, fun k' hk => harr k' (by simp [exitTo, hk])⟩
      | goto l =>
        obtain ⟨rest', hf, hr'⟩ := hq
        have hg : gotoIn l (.inScope c :: ks) = some (.code rest' :: .inScope c :: ks) := by simp [gotoIn, hf]
        obtain ⟨e₂, a₂, w₂, hq₂, harr₂⟩ := ih a₁ w₁ rest' hr'
        exact ⟨e₂, a₂, w₂, hq₂, .of_steps (harr _ hg) harr₂⟩
      | ret => exact ⟨_, a₁, w₁, hq, harr⟩
      | panic ch => exact ⟨_, a₁, w₁, hq, harr⟩
      | outgrown => exact ⟨_, a₁, w₁, hq, harr⟩
  obtain ⟨e, a', w', hq, harr⟩ := key k a w c h
  exact ⟨e, a', w', hq, .of_steps (.one step_scope) harr⟩
/-- A goto is taken. -/
theorem gotoQ_goto {c rest : Code} {k l : Nat} (hf : findLabel c l = some rest) (h : rest.wp P (GotoQ P c Q k) a w) : GotoQ P c Q (k + 1) (.goto l) a w := ⟨rest, hf, h⟩
theorem gotoQ_ret {c : Code} {k : Nat} : GotoQ P c Q (k + 1) .ret a w = Q .ret a w := rfl
end
end Go.Proofs.YtifopodnceopjaaGreatDoor
/- The document's own frames: its reader. -/
namespace Go.Proofs.YtifopodnceopjaaGreatDoor
open Go.RowKit Fr
set_option linter.unusedVariables false
set_option linter.unusedSimpArgs false
theorem two_set {w : World} {g i : Nat} {t : TypeId} {cs : Array Value} (h : w.heap[g]? = some (.cells cs t (0, 0))) (v : Value) : (w.setCell ⟨g, i, none⟩ v).heap[g]? = some (.cells (cs.setIfInBounds i v) t (0, 0)) := by
  simp [World.setCell, Array.getElem?_modify, h]
theorem Bytes.set {w : World} {B n g i : Nat} {A : Option Addr} {xs : List Nat} (h : Bytes w B A n xs) (hg : B ≤ g) (v : Value) : Bytes (w.setCell ⟨g, i, none⟩ v) B A n xs :=
  ⟨h.1, h.2.1, fun hn => by
    obtain ⟨b, off, e, hb, hc⟩ := h.2.2 hn
    exact ⟨b, off, e, hb, fun j hj => by rw [World.cell?_setCell_far _ _ _ _ (show g ≠ b by omega)]; exact hc j hj⟩⟩
end Go.Proofs.YtifopodnceopjaaGreatDoor
