/- A region that draws its order, whose stores come late: what is held need hold only until a late operation has come up. -/
import Derived.Deep.RegionHeld3
import Derived.Tactics
import Derived.Test.YtgelalbmhllccaaGreatQap
namespace Go.Proofs.YtgelalbmhllccaaGreat
set_option linter.unusedVariables false
set_option linter.unusedSimpArgs false
section
variable {P : Program} {md : Region.Mode} {ops : Array Oper} {Q : Exit → Act → World → Prop} {S : World → Prop} {ls : List Nat}
/-- A late operation has come up. -/
def Late (ls : List Nat) (got : Array Bool) : Prop := ∃ t ∈ ls, got.getD t false = true
theorem Late.more {got : Array Bool} {i : Nat} (h : Late ls got) : Late ls (got.setIfInBounds i true) := by
  obtain ⟨t, a, b⟩ := h
  exact ⟨t, a, getD_set_true b⟩
theorem Late.less {got : Array Bool} {i j : Nat} (hi : i ∉ ls) (h : Late ls ((got.setIfInBounds i true).setIfInBounds j true)) : Late ls (got.setIfInBounds j true) := by
  obtain ⟨t, a, b⟩ := h
  refine ⟨t, a, ?_⟩
  have hti : i ≠ t := fun e => hi (e ▸ a)
  by_cases hij : j = i
  · subst hij
    rw [getD_set_ne _ hti] at b
    exact b
  · rw [Array.setIfInBounds_comm _ _ (Ne.symm hij)] at b
    rwa [getD_set_ne _ hti] at b
/-- In whatever order; what is held stands until a late operation has come up. -/
def wpTill (P : Program) (md : Region.Mode) (ops : Array Oper) (Q : Exit → Act → World → Prop) (S : World → Prop) (ls : List Nat) : Nat → Array Bool → Act → World → Prop
  | 0, got, a, w => Region.ready md ops got = [] ∧ Q .normal a w
  | n + 1, got, a, w => (Region.ready md ops got = [] → Q .normal a w) ∧ ∀ i ∈ Region.ready md ops got, wpOp P ops Q i (fun a' w' => (Late ls (got.setIfInBounds i true) ∨ S w') ∧ wpTill P md ops Q S ls n (got.setIfInBounds i true) a' w') a w
theorem wpAny_of_till : ∀ (n : Nat) (got : Array Bool) (a : Act) (w : World), wpTill P md ops Q S ls n got a w → wpAny P md ops Q n got a w
  | 0, _, _, _, h => h
  | n + 1, _, _, _, h => ⟨h.1, fun i hi => wpOp_mono (fun a' w' k => wpAny_of_till n _ a' w' k.2) (h.2 i hi)⟩
/-- A region begun so. -/
theorem wp_region_till {id : Nat} {a : Act} {w : World} (ls : List Nat) (S : World → Prop) (hm : P.follows .mixedOrders = true) (h : wpTill P .any ops Q S ls ops.size (Array.replicate ops.size false) a w.drew) : (Code.region id ops true).wp P Q a w :=
  wp_region_any hm (wpAny_of_till _ _ _ _ h)
/-- Once a late one alone may come up, nothing is held. -/
theorem wpTill_late : ∀ {n : Nat} {got : Array Bool} {a : Act} {w : World}, Late ls got → wpAnyH P md ops Q (fun _ => True) n got a w → wpTill P md ops Q S ls n got a w
  | 0, _, _, _, _, h => h
  | n + 1, _, _, _, hl, h => ⟨h.1, fun i hi => wpOp_mono (fun a' w' k => ⟨Or.inl hl.more, wpTill_late hl.more k.2⟩) (h.2 i hi)⟩
theorem wpTill_turn {n t : Nat} {got : Array Bool} {a : Act} {w : World} (hr : Region.ready md ops got = [t]) (ht : ls.contains t = true) (hb : decide (t < got.size) = true) (h : wpAnyH P md ops Q (fun _ => True) (n + 1) got a w) : wpTill P md ops Q S ls (n + 1) got a w := by
  refine ⟨h.1, fun i hi => ?_⟩
  have hit : i = t := by rw [hr] at hi; simpa using hi
  subst hit
  have hL : Late ls (got.setIfInBounds i true) := ⟨i, by simpa using ht, by
    have hb := of_decide_eq_true hb
    simp [Array.getD, hb]⟩
  exact wpOp_mono (fun a' w' k => ⟨Or.inl hL, wpTill_late hL k.2⟩) (h.2 i hi)
/-- Does each late operation wait for i, none of them come up yet? -/
def lateB (md : Region.Mode) (ops : Array Oper) (ls : List Nat) (got : Array Bool) (i : Nat) : Bool :=
  ls.all fun t => (!got.getD t false) && (t != i) && match ops[t]? with
    | some o => o.after.any fun e => Region.binds md e && e.on == i
    | none => false
/-- A read that each late operation waits for is taken first. -/
theorem wpTill_read {i : Nat} {oi : Oper} {v : Value} (hi : ops[i]? = some oi) (hsel : ∀ (j : Nat) (o : Oper) cs b, ops[j]? = some o → o.op ≠ .select cs b) (hQ : ∀ c a w, Q (.panic c) (a.put oi.dst v) w → Q (.panic c) a w) :
    ∀ (n : Nat) (got : Array Bool) (a : Act) (w : World),
      (∀ j oj, ops[j]? = some oj → j ≠ i → got.getD j true = false → (∀ e ∈ oj.after, Region.binds md e = true → e.on ≠ i) → oi.apart ops oj = true) →
      (∀ t ∈ ls, got.getD t false = false ∧ t ≠ i ∧ ∀ o, ops[t]? = some o → ∃ e ∈ o.after, Region.binds md e = true ∧ e.on = i) →
      i ∈ Region.ready md ops got → YieldsIf P ops S oi v a → S w →
      wpTill P md ops Q S ls n (got.setIfInBounds i true) (a.put oi.dst v) w → wpTill P md ops Q S ls (n + 1) got a w := by
  intro n
  induction n with
  | zero =>
    intro got a w _ _ hr hy hS H
    refine ⟨fun h => absurd (h ▸ hr) (by simp), fun j hj => ?_⟩
    by_cases e : j = i
    · subst e; exact hy.wpOp hi hS ⟨Or.inr hS, H⟩
    · exact absurd (H.1 ▸ ready_mono hj e) (by simp)
  | succ n ih =>
    intro got a w hap hlt hr hy hS H
    refine ⟨fun h => absurd (h ▸ hr) (by simp), fun j hj => ?_⟩
    by_cases e : j = i
    · subst e; exact hy.wpOp hi hS ⟨Or.inr hS, H⟩
    · have hnext := H.2 j (ready_mono hj e)
      obtain ⟨hjg, oj, hoj, hwait⟩ := mem_ready.1 hj
      have hig := (mem_ready.1 hr).1
      have hif : got.getD i false = false := by
        cases hq : got.getD i false with
        | false => rfl
        | true =>
          rcases Nat.lt_or_ge i got.size with hb | hb
          · simp [Array.getD, hb] at hig hq; rw [hig] at hq; cases hq
          · simp [Array.getD, Nat.not_lt.2 hb] at hq
      have hno : ∀ x ∈ oj.after, Region.binds md x = true → x.on ≠ i := fun x hx hb he => by
        have := hwait x hx hb
        rw [he, hif] at this; cases this
      have hjl : j ∉ ls := fun hm => by
        obtain ⟨x, hx, hb, he⟩ := (hlt j hm).2.2 oj hoj
        exact hno x hx hb he
      have hswap := wpOp_putIf hoj (hap j oj hoj e hjg hno) (fun cs b => hsel i oi cs b hi) (fun cs b => hsel j oj cs b hoj) hQ hy hnext
      have hnl : ¬ Late ls ((got.setIfInBounds i true).setIfInBounds j true) := fun ⟨t, ht, hv⟩ => by
        have h1 := hlt t ht
        have hjt : j ≠ t := fun q => hjl (q ▸ ht)
        rw [getD_set_ne _ hjt, getD_set_ne _ (Ne.symm h1.2.1), h1.1] at hv
        cases hv
      refine wpOp_mono (fun a' w' k => ?_) hswap
      have hSw : S w' := k.2.1.resolve_left hnl
      refine ⟨Or.inr hSw, ih (got.setIfInBounds j true) a' w' (fun m om hm hmi hmg hmw => hap m om hm hmi ?_ hmw) (fun t ht => ⟨?_, (hlt t ht).2⟩) (ready_mono hr (Ne.symm e)) k.1 hSw ?_⟩
      · by_cases q : j = m
        · subst q; exact hjg
        · rwa [getD_set_ne true q] at hmg
      · have hjt : j ≠ t := fun q => hjl (by rw [q]; exact ht)
        rw [getD_set_ne _ hjt]; exact (hlt t ht).1
      · rw [Array.setIfInBounds_comm _ _ e]; exact k.2.2
/-- What yields in every world is taken first. -/
theorem wpTill_pure {i : Nat} {oi : Oper} {v : Value} (hi : ops[i]? = some oi) (hsel : ∀ (j : Nat) (o : Oper) cs b, ops[j]? = some o → o.op ≠ .select cs b) (hQ : ∀ c a w, Q (.panic c) (a.put oi.dst v) w → Q (.panic c) a w) (hil : i ∉ ls) :
    ∀ (n : Nat) (got : Array Bool) (a : Act) (w : World),
      (∀ j oj, ops[j]? = some oj → j ≠ i → got.getD j true = false → (∀ e ∈ oj.after, Region.binds md e = true → e.on ≠ i) → oi.apart ops oj = true) →
      i ∈ Region.ready md ops got → YieldsIf P ops (fun _ => True) oi v a → (Late ls got ∨ S w) →
      wpTill P md ops Q S ls n (got.setIfInBounds i true) (a.put oi.dst v) w → wpTill P md ops Q S ls (n + 1) got a w := by
  intro n
  induction n with
  | zero =>
    intro got a w _ hr hy hS H
    refine ⟨fun h => absurd (h ▸ hr) (by simp), fun j hj => ?_⟩
    by_cases e : j = i
    · subst e; exact hy.wpOp hi trivial ⟨hS.imp Late.more id, H⟩
    · exact absurd (H.1 ▸ ready_mono hj e) (by simp)
  | succ n ih =>
    intro got a w hap hr hy hS H
    refine ⟨fun h => absurd (h ▸ hr) (by simp), fun j hj => ?_⟩
    by_cases e : j = i
    · subst e; exact hy.wpOp hi trivial ⟨hS.imp Late.more id, H⟩
    · have hnext := H.2 j (ready_mono hj e)
      obtain ⟨hjg, oj, hoj, hwait⟩ := mem_ready.1 hj
      have hig := (mem_ready.1 hr).1
      have hif : got.getD i false = false := by
        cases hq : got.getD i false with
        | false => rfl
        | true =>
          rcases Nat.lt_or_ge i got.size with hb | hb
          · simp [Array.getD, hb] at hig hq; rw [hig] at hq; cases hq
          · simp [Array.getD, Nat.not_lt.2 hb] at hq
      have hno : ∀ x ∈ oj.after, Region.binds md x = true → x.on ≠ i := fun x hx hb he => by
        have := hwait x hx hb
        rw [he, hif] at this; cases this
      have hswap := wpOp_putIf hoj (hap j oj hoj e hjg hno) (fun cs b => hsel i oi cs b hi) (fun cs b => hsel j oj cs b hoj) hQ hy hnext
      refine wpOp_mono (fun a' w' k => ?_) hswap
      have hSw : Late ls (got.setIfInBounds j true) ∨ S w' := k.2.1.imp (Late.less hil) id
      refine ⟨hSw, ih (got.setIfInBounds j true) a' w' (fun m om hm hmi hmg hmw => hap m om hm hmi ?_ hmw) (ready_mono hr (Ne.symm e)) k.1 hSw ?_⟩
      · by_cases q : j = m
        · subst q; exact hjg
        · rwa [getD_set_ne true q] at hmg
      · rw [Array.setIfInBounds_comm _ _ e]; exact k.2.2
theorem lateB_spec {got : Array Bool} {i : Nat} (h : lateB md ops ls got i = true) : ∀ t ∈ ls, got.getD t false = false ∧ t ≠ i ∧ ∀ o, ops[t]? = some o → ∃ e ∈ o.after, Region.binds md e = true ∧ e.on = i := fun t ht => by
  have := List.all_eq_true.1 h t ht
  simp only [Bool.and_eq_true, Bool.not_eq_true', bne_iff_ne, ne_eq] at this
  obtain ⟨⟨h1, h2⟩, h3⟩ := this
  refine ⟨h1, h2, fun o ho => ?_⟩
  rw [ho] at h3
  obtain ⟨e, he, hb⟩ := Array.any_eq_true'.1 h3
  simp only [Bool.and_eq_true, beq_iff_eq] at hb
  exact ⟨e, he, hb.1, hb.2⟩
/-- For walks: a read. -/
theorem wpTill_take {i : Nat} {oi : Oper} {v : Value} {n : Nat} {got : Array Bool} {a : Act} {w : World} (hi : ops[i]? = some oi) (hs : Region.noSelect ops = true) (hf : Region.free md ops got i = true) (hr : (Region.ready md ops got).contains i = true) (hl : lateB md ops ls got i = true)
    (hQ : ∀ c a w, Q (.panic c) (a.put oi.dst v) w → Q (.panic c) a w) (hy : YieldsIf P ops S oi v a) (hS : S w) (h : wpTill P md ops Q S ls n (got.setIfInBounds i true) (a.put oi.dst v) w) : wpTill P md ops Q S ls (n + 1) got a w :=
  wpTill_read hi (Region.noSelect_spec hs) hQ n got a w (Region.free_spec hi hf) (lateB_spec hl) (by simpa using hr) hy hS h
/-- .. what reads nothing. -/
theorem wpTill_free {i : Nat} {oi : Oper} {v : Value} {n : Nat} {got : Array Bool} {a : Act} {w : World} (hi : ops[i]? = some oi) (hs : Region.noSelect ops = true) (hf : Region.free md ops got i = true) (hr : (Region.ready md ops got).contains i = true) (hl : (!ls.contains i) = true)
    (hQ : ∀ c a w, Q (.panic c) (a.put oi.dst v) w → Q (.panic c) a w) (hy : YieldsIf P ops (fun _ => True) oi v a) (hS : S w) (h : wpTill P md ops Q S ls n (got.setIfInBounds i true) (a.put oi.dst v) w) : wpTill P md ops Q S ls (n + 1) got a w :=
  wpTill_pure hi (Region.noSelect_spec hs) hQ (by simpa using hl) n got a w (Region.free_spec hi hf) (by simpa using hr) hy (Or.inr hS) h
end
end Go.Proofs.YtgelalbmhllccaaGreat
/- The landed source: a generation is ended; what is full. -/
namespace Go.Proofs.YtgelalbmhllccaaGreat
open Go.RowKit
set_option linter.unusedVariables false
set_option linter.unusedSimpArgs false
/-- One operation alone may come up. -/
theorem wpTill_solo {P : Program} {md : Region.Mode} {ops : Array Oper} {Q : Exit → Act → World → Prop} {S : World → Prop} {ls : List Nat} {n i : Nat} {o : Oper} {got : Array Bool} {a : Act} {w : World} (hr : Region.ready md ops got = [i]) (ho : ops[i]? = some o)
    (h : ∀ K : Act → World → Prop, Hid (∀ a' w', S w' → wpTill P md ops Q S ls n (got.setIfInBounds i true) a' w' → K a' w') → if Region.wanted o (yielded ops a.tmps) = true then o.wp P a w K Q else K (a.put o.dst undef) w) : wpTill P md ops Q S ls (n + 1) got a w := by
  refine ⟨fun e => absurd (hr.symm.trans e) (by simp), fun j hj => ?_⟩
  rw [hr] at hj
  obtain rfl : j = i := by simpa using hj
  have h2 := h (fun a' w' => (Late ls (got.setIfInBounds j true) ∨ S w') ∧ wpTill P md ops Q S ls n (got.setIfInBounds j true) a' w') (Lib.hid fun a' w' hs ht => ⟨Or.inr hs, ht⟩)
  unfold wpOp
  rw [ho]
  dsimp only
  split
  · rename_i hw
    rw [if_pos hw] at h2
    exact Or.inl h2
  · rename_i hw
    rw [if_neg hw] at h2
    exact h2
/-- .. in a region that draws its order: append(ints, one). -/
theorem wpOp_append_int {P : Program} {w : World} {ops : Array Oper} {o : Oper} {a : Act} {K : Act → World → Prop} {Q : Exit → Act → World → Prop} {E : Prop} (hgd : o.guard = none) (s x : Operand) (t : TypeId)
    (ho : o.op = .call { callee := .builtin .append, args := #[s, x], argTypes := #[t, t] }) {base n c cx e : Nat} {A : Option Addr} {l : List Value} {ad : Addr} {y : Int} (ht : P.underlying t = some (.slice e))
    (hi : (P.info? e).map (fun i => (i.zero, i.size, i.bytes)) = some (some (.int .i64 0), 1, 8)) (hs : a.eval s = .slice A n c) (hown : w.ownsRow base e 1 (.slice A n c) n l) (hx0 : a.eval x = .slice (some ad) 1 cx) (hx : w.cell? ad = some (.int .i64 y)) (hlen : n ≤ 1000000) (hbase : base ≤ w.heap.size)
    (h : ∀ A2 c2 w', w'.ownsRow base e 1 (.slice A2 (n + 1) c2) (n + 1) (l ++ [.int .i64 y]) → w.grownBy w' (Value.slice A n c).ownBlock → ((Value.slice A2 (n + 1) c2).ownBlock = (Value.slice A n c).ownBlock ∨ (Value.slice A2 (n + 1) c2).ownBlock = some w.heap.size) → K (a.put o.dst (.slice A2 (n + 1) c2)) w') :
    if Region.wanted o (yielded ops a.tmps) = true then Oper.wp P o a w K Q else E := by
  have hw : Region.wanted o (yielded ops a.tmps) = true := by simp [Region.wanted, hgd]
  rw [if_pos hw]
  obtain ⟨A2, c2, w', hr, h2, h3, h5⟩ := run_append_int (P := P) (cx := cx) ht hi hown hx hlen hbase o.type
  unfold Oper.wp execOp
  simp only [ho, resolve, invoke, builtin, Sem.run_bind, Sem.run_pure, Result.andThen_ok, List.map_toArray, List.map_cons, List.map_nil, hs, hx0, hr]
  exact h A2 c2 w' h2 h3 h5
section
variable {w w' : World} {F G : Nat → Prop} {b g s : Nat} {A1 : Option Addr} {n1 c1 : Nat} {A2 : Option Addr} {n2 c2 : Nat} {A3 : Option Addr} {n3 c3 : Nat} {xs cs : List Nat} {M : List (List Nat)} {cl : Bool}
/-- A source in some place, its blocks those of F. -/
def SrcR (w : World) (F : Nat → Prop) (b g s : Nat) (xs cs : List Nat) (M : List (List Nat)) (cl : Bool) : Prop :=
  ∃ A1 n1 c1 A2 n2 c2 A3 n3 c3, SrcA w F b g s A1 n1 c1 A2 n2 c2 A3 n3 c3 xs cs M cl
theorem SrcR.turned (h : SrcR w F b g s xs cs M cl) (k : Turned G w w') (hd : ∀ i, F i → ¬ G i) : SrcR w' F b g s xs cs M cl := by
  obtain ⟨A1, n1, c1, A2, n2, c2, A3, n3, c3, h⟩ := h
  exact ⟨_, _, _, _, _, _, _, _, _, h.turned k hd⟩
theorem SrcR.keep (h : SrcR w F b g s xs cs M cl) (k : Keep w w') : SrcR w' F b g s xs cs M cl := h.turned (Turned.of_keep (F := fun _ => False) k) fun _ _ e => e
theorem SrcR.lt (h : SrcR w F b g s xs cs M cl) : ∀ i, F i → i < w.heap.size := by
  obtain ⟨A1, n1, c1, A2, n2, c2, A3, n3, c3, h⟩ := h
  exact h.lt
theorem SrcR.at_ (h : SrcR w F b g s xs cs M cl) : F b := by
  obtain ⟨A1, n1, c1, A2, n2, c2, A3, n3, c3, h⟩ := h
  exact h.f0
/-- What a call hands back that writes to the source. -/
def Wrote (F : Nat → Prop) (w : World) (b g s : Nat) (xs cs : List Nat) (M : List (List Nat)) (cl : Bool) (w' : World) : Prop :=
  ∃ F', SrcR w' F' b g s xs cs M cl ∧ Turned F w w' ∧ ∀ i, F' i → F i ∨ w.heap.size ≤ i
theorem Wrote.trans {w1 w2 : World} {xs' cs' : List Nat} {M' : List (List Nat)} {cl' : Bool} (h : Turned F w w1) (hF : ∀ i, G i → F i ∨ w.heap.size ≤ i) (k : Wrote G w1 b g s xs' cs' M' cl' w2) : Wrote F w b g s xs' cs' M' cl' w2 := by
  obtain ⟨F', h1, h2, h3⟩ := k
  refine ⟨F', h1, h.trans h2 hF, fun i hi => ?_⟩
  rcases h3 i hi with e | e
  · exact hF i e
  · exact Or.inr (Nat.le_trans h.size e)
/-- Its cells, when a row of its own has grown. -/
theorem SrcA.stands (h : SrcA w F b g s A1 n1 c1 A2 n2 c2 A3 n3 c3 xs cs M cl) (t : Turned G w w') (hb : ¬ G b) : (∀ i v, w.cell? ⟨b, i, none⟩ = some v → w'.cell? ⟨b, i, none⟩ = some v) ∧ ∀ i, w'.frozen? ⟨b, i, none⟩ = false := by
  have hblk : w'.heap[b]? = _ := (t.block b h.blt hb).trans h.block
  exact ⟨fun i v hv => t.cell (p := ⟨b, i, none⟩) hv hb, fun i => by simp [World.frozen?, hblk]⟩
set_option maxRecDepth 100000 in
set_option maxHeartbeats 2000000 in
/-- A generation of the first n open bytes. -/
theorem endS_any (h : SrcR w F b g s xs cs M cl) (n f : Nat) (hf : M.flatten.length = f) (hm : M.length ≤ 900000) (hn : f + n ≤ 140737488351232) (M' : List (List Nat)) (hM : endsN M' = endsN M ++ [f + n]) :
    Calls Tryz.prog 61 #[.pointer (some ⟨b, 0, none⟩), .int .i64 (n : Int)] w fun e w' => e = .returned (.tuple #[]) ∧ Wrote F w b g s xs cs M' cl w' := by
  obtain ⟨A1, n1, c1, A2, n2, c2, A3, n3, c3, h⟩ := h
  have e3 := h.n3eq
  obtain ⟨wd, hwd⟩ : ∃ wd, World.drew w = wd := ⟨_, rfl⟩
  have kd : Keep w wd := by rw [← hwd]; exact Keep.drew (Keep.refl w)
  have hd := h.keep kd
  have C0 : Hid (Calls Tryz.prog 102 #[.pointer (some ⟨b, 0, none⟩), .int .i64 (n3 : Int)] wd fun e w' => e = .returned (.int .i64 (f : Int)) ∧ w' = wd) := by
    have := start_any hd M.length f (Nat.le_refl _) (by omega) (by rw [startN_all, hf])
    rw [e3] at this
    exact this.mono fun e w' h => ⟨h.1, h.2.symm⟩
  have y4 := hd.x4
  have y4' := h.x4
  obtain ⟨t, ht⟩ : ∃ t, f + n = t := ⟨_, rfl⟩
  rw [ht] at hM
  have q1 : (f : Int) + (n : Int) = (t : Int) := by omega
  have q2 : IntKind.i64.wrap (t : Int) = (t : Int) := IntWalk.i64_in _ (by omega)
  have q3 : IntKind.i64.wrap ((f : Int) + (n : Int)) = (t : Int) := by rw [q1, q2]
  obtain ⟨wl, hwl⟩ : ∃ wl, wd.alloc (.cells #[.int .i64 (t : Int)] 3) = wl := ⟨_, rfl⟩
  have kl : Keep wd wl := by rw [← hwl]; exact (Keep.refl wd).alloc _ _
  have zl : wl.cell? ⟨wd.heap.size, 0, none⟩ = some (.int .i64 (t : Int)) := by rw [← hwl]; exact alloc_cells rfl
  have HL := Lib.hid (hd.keep kl)
  have HK : Hid (Keep w wl) := kd.trans kl
  have HM := Lib.hid hM
  have HWD := Lib.hid hwd
  have HN : Hid (n3 ≤ 1000000) := by show n3 ≤ 1000000; omega
  clear h hd hf hm hn hM kd kl e3 ht
  go_enter Tryz.func61, Tryz.ntmps61
  go_wp2_with fail
  refine wp_region_till [18] (fun wz : World => wz.cell? ⟨b, 4, none⟩ = some (.slice A3 n3 c3)) (by kernel_rfl) ?_
  rw [HWD.out]
  have hHeld : (fun wz : World => wz.cell? ⟨b, 4, none⟩ = some (.slice A3 n3 c3)) wd := y4
  refine wpTill_free (i := 0) (v := ?_) rfl (by kernel_rfl) (by kernel_rfl) (by kernel_rfl) (by kernel_rfl) (fun _ _ _ h => h) (Or.inl ⟨by rfl, ?_⟩) hHeld ?_
  rotate_left
  · intro wq hSw
    go_simp
    all_goals with_reducible rfl
  try simp only [Act.put, List.getElem_toArray, List.getElem_cons_succ, List.getElem_cons_zero, List.setIfInBounds_toArray, List.set_cons_zero, List.set_cons_succ]
  refine wpTill_free (i := 1) (v := ?_) rfl (by kernel_rfl) (by kernel_rfl) (by kernel_rfl) (by kernel_rfl) (fun _ _ _ h => h) (Or.inl ⟨by rfl, ?_⟩) hHeld ?_
  rotate_left
  · intro wq hSw
    go_simp
    all_goals with_reducible rfl
  try simp only [Act.put, List.getElem_toArray, List.getElem_cons_succ, List.getElem_cons_zero, List.setIfInBounds_toArray, List.set_cons_zero, List.set_cons_succ]
  refine wpTill_free (i := 2) (v := ?_) rfl (by kernel_rfl) (by kernel_rfl) (by kernel_rfl) (by kernel_rfl) (fun _ _ _ h => h) (Or.inl ⟨by rfl, ?_⟩) hHeld ?_
  rotate_left
  · intro wq hSw
    go_simp
    all_goals with_reducible rfl
  try simp only [Act.put, List.getElem_toArray, List.getElem_cons_succ, List.getElem_cons_zero, List.setIfInBounds_toArray, List.set_cons_zero, List.set_cons_succ]
  refine wpTill_free (i := 3) (v := ?_) rfl (by kernel_rfl) (by kernel_rfl) (by kernel_rfl) (by kernel_rfl) (fun _ _ _ h => h) (Or.inl ⟨by rfl, ?_⟩) hHeld ?_
  rotate_left
  · intro wq hSw
    go_simp
    all_goals with_reducible rfl
  try simp only [Act.put, List.getElem_toArray, List.getElem_cons_succ, List.getElem_cons_zero, List.setIfInBounds_toArray, List.set_cons_zero, List.set_cons_succ]
  refine wpTill_take (i := 4) (v := ?_) rfl (by kernel_rfl) (by kernel_rfl) (by kernel_rfl) (by kernel_rfl) (fun _ _ _ h => h) (Or.inl ⟨by rfl, ?_⟩) hHeld ?_
  rotate_left
  · intro wq hSw
    have q0_ := hSw
    go_simp
    all_goals with_reducible rfl
  try simp only [Act.put, List.getElem_toArray, List.getElem_cons_succ, List.getElem_cons_zero, List.setIfInBounds_toArray, List.set_cons_zero, List.set_cons_succ]
  refine wpTill_free (i := 5) (v := ?_) rfl (by kernel_rfl) (by kernel_rfl) (by kernel_rfl) (by kernel_rfl) (fun _ _ _ h => h) (Or.inl ⟨by rfl, ?_⟩) hHeld ?_
  rotate_left
  · intro wq hSw
    go_simp
    all_goals with_reducible rfl
  try simp only [Act.put, List.getElem_toArray, List.getElem_cons_succ, List.getElem_cons_zero, List.setIfInBounds_toArray, List.set_cons_zero, List.set_cons_succ]
  refine wpTill_free (i := 6) (v := ?_) rfl (by kernel_rfl) (by kernel_rfl) (by kernel_rfl) (by kernel_rfl) (fun _ _ _ h => h) (Or.inl ⟨by rfl, ?_⟩) hHeld ?_
  rotate_left
  · intro wq hSw
    go_simp
    all_goals with_reducible rfl
  try simp only [Act.put, List.getElem_toArray, List.getElem_cons_succ, List.getElem_cons_zero, List.setIfInBounds_toArray, List.set_cons_zero, List.set_cons_succ]
  refine wpTill_free (i := 7) (v := ?_) rfl (by kernel_rfl) (by kernel_rfl) (by kernel_rfl) (by kernel_rfl) (fun _ _ _ h => h) (Or.inl ⟨by rfl, ?_⟩) hHeld ?_
  rotate_left
  · intro wq hSw
    go_simp
    all_goals with_reducible rfl
  try simp only [Act.put, List.getElem_toArray, List.getElem_cons_succ, List.getElem_cons_zero, List.setIfInBounds_toArray, List.set_cons_zero, List.set_cons_succ]
  refine wpTill_free (i := 8) (v := ?_) rfl (by kernel_rfl) (by kernel_rfl) (by kernel_rfl) (by kernel_rfl) (fun _ _ _ h => h) (Or.inl ⟨by rfl, ?_⟩) hHeld ?_
  rotate_left
  · intro wq hSw
    go_simp
    all_goals with_reducible rfl
  try simp only [Act.put, List.getElem_toArray, List.getElem_cons_succ, List.getElem_cons_zero, List.setIfInBounds_toArray, List.set_cons_zero, List.set_cons_succ]
  refine wpTill_take (i := 9) (v := ?_) rfl (by kernel_rfl) (by kernel_rfl) (by kernel_rfl) (by kernel_rfl) (fun _ _ _ h => h) (Or.inl ⟨by rfl, ?_⟩) hHeld ?_
  rotate_left
  · intro wq hSw
    have q0_ := hSw
    go_simp
    all_goals with_reducible rfl
  try simp only [Act.put, List.getElem_toArray, List.getElem_cons_succ, List.getElem_cons_zero, List.setIfInBounds_toArray, List.set_cons_zero, List.set_cons_succ]
  refine wpTill_free (i := 10) (v := ?_) rfl (by kernel_rfl) (by kernel_rfl) (by kernel_rfl) (by kernel_rfl) (fun _ _ _ h => h) (Or.inl ⟨by rfl, ?_⟩) hHeld ?_
  rotate_left
  · intro wq hSw
    go_simp
    all_goals with_reducible rfl
  try simp only [Act.put, List.getElem_toArray, List.getElem_cons_succ, List.getElem_cons_zero, List.setIfInBounds_toArray, List.set_cons_zero, List.set_cons_succ]
  refine wpTill_free (i := 12) (v := ?_) rfl (by kernel_rfl) (by kernel_rfl) (by kernel_rfl) (by kernel_rfl) (fun _ _ _ h => h) (Or.inl ⟨by rfl, ?_⟩) hHeld ?_
  rotate_left
  · intro wq hSw
    go_simp
    all_goals with_reducible rfl
  try simp only [Act.put, List.getElem_toArray, List.getElem_cons_succ, List.getElem_cons_zero, List.setIfInBounds_toArray, List.set_cons_zero, List.set_cons_succ]
  refine wpTill_solo (i := 11) (by kernel_rfl) rfl (fun K hK => ?_)
  go_simp
  refine C0.out.mono ?_
  rintro e w_1 ⟨rfl, rfl⟩
  have hHeld2 : (fun wz : World => wz.cell? ⟨b, 4, none⟩ = some (.slice A3 n3 c3)) _ := y4
  refine hK.out _ _ hHeld2 ?_
  clear hK K hHeld
  have hHeld := hHeld2
  clear hHeld2
  try simp only [Act.put, List.getElem_toArray, List.getElem_cons_succ, List.getElem_cons_zero, List.setIfInBounds_toArray, List.set_cons_zero, List.set_cons_succ]
  refine wpTill_free (i := 13) (v := ?_) rfl (by kernel_rfl) (by kernel_rfl) (by kernel_rfl) (by kernel_rfl) (fun _ _ _ h => h) (Or.inl ⟨by rfl, ?_⟩) hHeld ?_
  rotate_left
  · intro wq hSw
    go_simp
    all_goals with_reducible rfl
  try simp only [Act.put, List.getElem_toArray, List.getElem_cons_succ, List.getElem_cons_zero, List.setIfInBounds_toArray, List.set_cons_zero, List.set_cons_succ]
  refine wpTill_solo (i := 14) (by kernel_rfl) rfl (fun K hK => ?_)
  go_simp
  have hHeld2 : (fun wz : World => wz.cell? ⟨b, 4, none⟩ = some (.slice A3 n3 c3)) wl := HL.out.x4
  refine hK.out _ _ hHeld2 ?_
  clear hK K hHeld
  have hHeld := hHeld2
  clear hHeld2
  try simp only [Act.put, List.getElem_toArray, List.getElem_cons_succ, List.getElem_cons_zero, List.setIfInBounds_toArray, List.set_cons_zero, List.set_cons_succ]
  refine wpTill_solo (i := 15) (by kernel_rfl) rfl (fun K hK => ?_)
  refine wpOp_append_int rfl _ _ 126 rfl Tryz.underlying126 infoInt rfl HL.out.s3 rfl zl HN.out (by omega) ?_
  intro A4 n4 w4 h4 g4 h5
  have t4 : Turned (fun i => (Value.slice A3 n3 c3).ownBlock = some i) wl w4 := Turned.of_grown (F := fun i => (Value.slice A3 n3 c3).ownBlock = some i) g4 fun i e => e
  have hO : OwnI w4 0 A4 (n3 + 1) n4 (endsN M') := by
    unfold OwnI
    rw [HM.out, List.map_append]
    exact h4
  obtain ⟨p1, p2⟩ := HL.out.put4 t4 hO (h5.imp id fun e => ⟨_, e, Nat.le_refl _⟩)
  obtain ⟨z4, fr⟩ := HL.out.stands t4 fun e => (HL.out.f3 b e).2 rfl
  have PW : Hid (Wrote F w b g s xs cs M' cl (w4.setCell ⟨b, 4, none⟩ (.slice A4 (n3 + 1) n4))) := ⟨_, ⟨_, _, _, _, _, _, _, _, _, p1⟩, (Turned.of_keep (F := F) HK.out).trans p2 fun i e => Or.inl e, fun i hi => hi.new.imp id fun e => Nat.le_trans HK.out.size e⟩
  have z5 := z4 4 _ HL.out.x4
  have f5 := fr 4
  clear h4 g4 h5 t4 hO p1 p2 z4 fr
  have hHeld2 : (fun wz : World => wz.cell? ⟨b, 4, none⟩ = some (.slice A3 n3 c3)) w4 := z5
  refine hK.out _ _ hHeld2 ?_
  clear hK K hHeld
  have hHeld := hHeld2
  clear hHeld2
  try simp only [Act.put, List.getElem_toArray, List.getElem_cons_succ, List.getElem_cons_zero, List.setIfInBounds_toArray, List.set_cons_zero, List.set_cons_succ]
  refine wpTill_free (i := 16) (v := ?_) rfl (by kernel_rfl) (by kernel_rfl) (by kernel_rfl) (by kernel_rfl) (fun _ _ _ h => h) (Or.inl ⟨by rfl, ?_⟩) hHeld ?_
  rotate_left
  · intro wq hSw
    go_simp
    all_goals with_reducible rfl
  try simp only [Act.put, List.getElem_toArray, List.getElem_cons_succ, List.getElem_cons_zero, List.setIfInBounds_toArray, List.set_cons_zero, List.set_cons_succ]
  refine wpTill_free (i := 17) (v := ?_) rfl (by kernel_rfl) (by kernel_rfl) (by kernel_rfl) (by kernel_rfl) (fun _ _ _ h => h) (Or.inl ⟨by rfl, ?_⟩) hHeld ?_
  rotate_left
  · intro wq hSw
    go_simp
    all_goals with_reducible rfl
  try simp only [Act.put, List.getElem_toArray, List.getElem_cons_succ, List.getElem_cons_zero, List.setIfInBounds_toArray, List.set_cons_zero, List.set_cons_succ]
  refine wpTill_turn (t := 18) (by kernel_rfl) (by kernel_rfl) (by kernel_rfl) ?_
  clear hHeld
  have hHeld : (fun _ : World => True) w4 := trivial
  refine wpAnyH_ready (rs := [18]) (by kernel_rfl) (by simp) ?_
  refine AllReadyH.cons rfl (fun K hK => ?_) AllReadyH.nil
  go_simp
  refine hK.out _ _ trivial (fun hHeld => ?_)
  clear hK K
  try simp only [Act.put, List.getElem_toArray, List.getElem_cons_succ, List.getElem_cons_zero, List.setIfInBounds_toArray, List.set_cons_zero, List.set_cons_succ]
  refine wpAnyH_done (by kernel_rfl) ?_ _
  clear hHeld
  go_wp2_with fail
  go_end0
  exact ⟨rfl, PW.out⟩
end
end Go.Proofs.YtgelalbmhllccaaGreat
/- The landed source: Flush, Close. -/
namespace Go.Proofs.YtgelalbmhllccaaGreat
open Go.RowKit
set_option linter.unusedVariables false
set_option linter.unusedSimpArgs false
/-- What a source's numbers keep: its sizes, cuts within the stream, its generations. -/
structure GoodS (g s P : Nat) (xs cs : List Nat) (M : List (List Nat)) : Prop where
  size : SizeS g s P
  le : ∀ c ∈ cs, c ≤ xs.length
  up : ∀ (i j x y : Nat), i ≤ j → cs[i]? = some x → cs[j]? = some y → x ≤ y
  gens : M = gensN (P - 4) cs xs
  len : xs.length ≤ 262144
def flushE (cl : Bool) : Int := if cl then 27 else 0
def flushC (P : Nat) (cl : Bool) (xs cs : List Nat) : List Nat := if cl = false ∧ openN (P - 4) cs xs ≠ [] then cs ++ [xs.length] else cs
theorem flat_each {M : List (List Nat)} (h : ∀ r ∈ M, 1 ≤ r.length) : M.length ≤ M.flatten.length := by
  induction M with
  | nil => simp
  | cons r l ih =>
    have := h r (by simp)
    have := ih fun q hq => h q (by simp [hq])
    simp only [List.length_cons, List.flatten_cons, List.length_append]; omega
namespace GoodS
variable {g s P : Nat} {xs cs : List Nat} {M : List (List Nat)}
theorem room (h : GoodS g s P xs cs M) : 1 ≤ P - 4 := by have := h.size.lo; omega
theorem flat (h : GoodS g s P xs cs M) : M.flatten.length = fromN (P - 4) cs xs := by rw [h.gens]; exact gens_flen h.room
theorem from_ (h : GoodS g s P xs cs M) : fromN (P - 4) cs xs ≤ xs.length := from_le h.room
theorem openL (h : GoodS g s P xs cs M) : xs.length = M.flatten.length + (openN (P - 4) cs xs).length := by
  have := h.from_
  rw [h.flat, open_flen]; omega
theorem few (h : GoodS g s P xs cs M) : M.length ≤ 262144 := by
  have h1 := flat_each (M := M) (by rw [h.gens]; exact fun r hr => (gens_each h.room r hr).1)
  have h2 := h.flat
  have h3 := h.from_
  have h4 := h.len
  omega
theorem flush (h : GoodS g s P xs cs M) (cl : Bool) : GoodS g s P xs (flushC P cl xs cs) (gensN (P - 4) (flushC P cl xs cs) xs) := by
  refine ⟨h.size, ?_, ?_, rfl, h.len⟩
  · unfold flushC
    split
    · intro c hc
      rcases List.mem_append.1 hc with hc | hc
      · exact h.le c hc
      · rw [List.mem_singleton] at hc; omega
    · exact h.le
  · unfold flushC
    split
    · intro i j x y hij hi hj
      have hle : ∀ k v, (cs ++ [xs.length])[k]? = some v → v ≤ xs.length := fun k v hv => by
        rcases List.mem_append.1 (List.mem_of_getElem? hv) with hc | hc
        · exact h.le v hc
        · rw [List.mem_singleton] at hc; omega
      rcases Nat.lt_or_ge j cs.length with h1 | h1
      · rw [List.getElem?_append_left (by omega)] at hi
        rw [List.getElem?_append_left h1] at hj
        exact h.up i j x y hij hi hj
      · rw [List.getElem?_append_right h1] at hj
        have hy : y = xs.length := by
          rcases Nat.eq_zero_or_pos (j - cs.length) with e | e
          · rw [e] at hj; simpa using hj.symm
          · rw [List.getElem?_eq_none (by simp; omega)] at hj; cases hj
        rw [hy]; exact hle i x hi
    · exact h.up
end GoodS
section
variable {w w' : World} {F G : Nat → Prop} {b g s : Nat} {A1 : Option Addr} {n1 c1 : Nat} {A2 : Option Addr} {n2 c2 : Nat} {A3 : Option Addr} {n3 c3 : Nat} {xs cs : List Nat} {M : List (List Nat)} {cl : Bool}
theorem SrcR.wrote (h : SrcR w F b g s xs cs M cl) (k : Keep w w') : Wrote F w b g s xs cs M cl w' := ⟨F, h.keep k, Turned.of_keep k, fun i hi => Or.inl hi⟩
theorem AskV.form {v : Value} {p : Prop} {r : Int} (h : AskV w v p r) : ∃ i j : Nat, v = .func (.func 135) #[] #[.pointer (some ⟨i, 0, none⟩), .pointer (some ⟨j, 0, none⟩)] := by
  obtain ⟨i, j, e, _⟩ := h
  exact ⟨i, j, e⟩
/-- What is told first of a source: closed or not. -/
theorem told2 (h : SrcA w F b g s A1 n1 c1 A2 n2 c2 A3 n3 c3 xs cs M cl) (hg : 1 ≤ g) {w1 w2 : World} {v1 v2 : Value} {r2 : Int} (k2 : Keep w1 w2) (a1 : AskV w1 v1 True 0) (a2 : AskV w2 v2 True r2) (c : Nat) (t : TypeId) :
    Calls Tryz.prog 55 #[.slice (some ⟨w2.heap.size, 0, none⟩) 2 c] (w2.alloc (.cells #[v1, v2] t)) fun e w' => e = .returned (.int .i64 r2) ∧ ∃ m, w' = (w2.alloc (.cells #[v1, v2] t)).drewN m := first2 v1 v2 0 r2 w2 (a1.keep k2) (a2.weak fun _ => trivial) c t
set_option maxHeartbeats 1000000 in
theorem flush_closed {P : Nat} (h : SrcR w F b g s xs cs M true) (hG : GoodS g s P xs cs M) :
    Calls Tryz.prog 26 #[.pointer (some ⟨b, 0, none⟩)] w fun e w' => e = .returned (.int .i64 27) ∧ Keep w w' := by
  obtain ⟨A1, n1, c1, A2, n2, c2, A3, n3, c3, h⟩ := h
  have hg := hG.size.g0
  have H0 := Lib.hid h
  have HG := Lib.hid hG
  clear h hG
  go_enter Tryz.func26, Tryz.ntmps26
  go_wp2_with fail
  refine (isnone_any H0.out hg).mono ?_
  rintro e w1 ⟨v1, rfl, k1, a1⟩
  obtain ⟨i1, j1, rfl⟩ := a1.form
  have K1 := Lib.hid k1
  have V1 := Lib.hid a1
  clear k1 a1
  go_wp2_with fail
  refine (isclosed_any (H0.out.keep K1.out) 27 rfl).mono ?_
  rintro e w2 ⟨v2, rfl, k2, a2⟩
  obtain ⟨i2, j2, rfl⟩ := a2.form
  have K2 := Lib.hid k2
  have V2 := Lib.hid a2
  clear k2 a2
  go_wp2_with fail
  refine (told2 H0.out hg K2.out V1.out V2.out _ _).mono ?_
  rintro e w4 ⟨rfl, m, hw4⟩
  have K3 : Hid (Keep w w4) := by show Keep w w4; rw [hw4]; exact ((K1.out.trans K2.out).alloc _ _).drewN m
  clear hw4
  clear K1 V1 K2 V2
  go_wp2_with fail
  go_ret
  exact ⟨rfl, K3.out⟩
set_option maxHeartbeats 1000000 in
theorem flush_none {P : Nat} (h : SrcR w F b g s xs cs M false) (hG : GoodS g s P xs cs M) (ho : openN (P - 4) cs xs = []) :
    Calls Tryz.prog 26 #[.pointer (some ⟨b, 0, none⟩)] w fun e w' => e = .returned (.int .i64 0) ∧ Keep w w' := by
  obtain ⟨A1, n1, c1, A2, n2, c2, A3, n3, c3, h⟩ := h
  have hg := hG.size.g0
  have H0 := Lib.hid h
  have HG := Lib.hid hG
  have HO := Lib.hid ho
  clear ho
  clear h hG
  go_enter Tryz.func26, Tryz.ntmps26
  go_wp2_with fail
  refine (isnone_any H0.out hg).mono ?_
  rintro e w1 ⟨v1, rfl, k1, a1⟩
  obtain ⟨i1, j1, rfl⟩ := a1.form
  have K1 := Lib.hid k1
  have V1 := Lib.hid a1
  clear k1 a1
  go_wp2_with fail
  refine (isclosed_any (H0.out.keep K1.out) 0 rfl).mono ?_
  rintro e w2 ⟨v2, rfl, k2, a2⟩
  obtain ⟨i2, j2, rfl⟩ := a2.form
  have K2 := Lib.hid k2
  have V2 := Lib.hid a2
  clear k2 a2
  go_wp2_with fail
  refine (told2 H0.out hg K2.out V1.out V2.out _ _).mono ?_
  rintro e w4 ⟨rfl, m, hw4⟩
  have K3 : Hid (Keep w w4) := by show Keep w w4; rw [hw4]; exact ((K1.out.trans K2.out).alloc _ _).drewN m
  clear hw4
  clear K1 V1 K2 V2
  go_wp2_with fail
  refine (open_any (H0.out.keep K3.out) _ 0 rfl (by have := HG.out.openL; rw [HO.out] at this; exact this) (by have := HG.out.few; omega) (by have := HG.out.len; omega)).mono ?_
  rintro e w5 ⟨rfl, m2, rfl⟩
  have K5 : Hid (Keep w (w4.drewN m2)) := K3.out.drewN m2
  generalize w4.drewN m2 = w6 at *
  go_wp2_with fail
  go_ret
  exact ⟨rfl, K5.out⟩
set_option maxRecDepth 100000 in
set_option maxHeartbeats 4000000 in
theorem flush_some {P : Nat} (h : SrcR w F b g s xs cs M false) (hG : GoodS g s P xs cs M) (ho : openN (P - 4) cs xs ≠ []) (hcs : cs.length ≤ 900000) :
    Calls Tryz.prog 26 #[.pointer (some ⟨b, 0, none⟩)] w fun e w' => e = .returned (.int .i64 0) ∧ Wrote F w b g s xs (cs ++ [xs.length]) (gensN (P - 4) (cs ++ [xs.length]) xs) false w' := by
  obtain ⟨o, hol⟩ : ∃ o, (openN (P - 4) cs xs).length = o := ⟨_, rfl⟩
  have ho1 : 1 ≤ o := by
    rcases Nat.eq_zero_or_pos o with e | e
    · rw [e] at hol; exact absurd (List.eq_nil_of_length_eq_zero hol) ho
    · exact e
  have ho2 : o ≤ 262144 := by have := hG.openL; have := hG.len; omega
  obtain ⟨A1, n1, c1, A2, n2, c2, A3, n3, c3, h⟩ := h
  have hg := hG.size.g0
  have H0 := Lib.hid h
  have HG := Lib.hid hG
  have HO := Lib.hid ho
  have HOL := Lib.hid hol
  have HCS := Lib.hid hcs
  clear ho hol hcs
  clear h hG
  go_enter Tryz.func26, Tryz.ntmps26
  go_wp2_with fail
  refine (isnone_any H0.out hg).mono ?_
  rintro e w1 ⟨v1, rfl, k1, a1⟩
  obtain ⟨i1, j1, rfl⟩ := a1.form
  have K1 := Lib.hid k1
  have V1 := Lib.hid a1
  clear k1 a1
  go_wp2_with fail
  refine (isclosed_any (H0.out.keep K1.out) 0 rfl).mono ?_
  rintro e w2 ⟨v2, rfl, k2, a2⟩
  obtain ⟨i2, j2, rfl⟩ := a2.form
  have K2 := Lib.hid k2
  have V2 := Lib.hid a2
  clear k2 a2
  go_wp2_with fail
  refine (told2 H0.out hg K2.out V1.out V2.out _ _).mono ?_
  rintro e w4 ⟨rfl, m, hw4⟩
  have K3 : Hid (Keep w w4) := by show Keep w w4; rw [hw4]; exact ((K1.out.trans K2.out).alloc _ _).drewN m
  clear hw4
  clear K1 V1 K2 V2
  go_wp2_with fail
  refine (open_any (H0.out.keep K3.out) _ o rfl (by have := HG.out.openL; rw [HOL.out] at this; exact this) (by have := HG.out.few; omega) (by have := HG.out.len; omega)).mono ?_
  rintro e w5 ⟨rfl, m2, rfl⟩
  have K5 : Hid (Keep w (w4.drewN m2)) := K3.out.drewN m2
  have HS5 : Hid (SrcR (w4.drewN m2) F b g s xs cs M false) := ⟨_, _, _, _, _, _, _, _, _, H0.out.keep K5.out⟩
  generalize w4.drewN m2 = w6 at *
  clear K3 H0
  go_wp2_with fail
  refine (endS_any HS5.out o _ rfl (by have := HG.out.few; omega) (by have h1 := HG.out.openL; have h2 := HG.out.len; rw [HOL.out] at h1; omega) (M ++ [openN (P - 4) cs xs]) (by rw [endsN_more, HOL.out])).mono ?_
  rintro e w7 ⟨rfl, F7, ⟨A1, n1, c1, A2, n2, c2, A3, n3, c3, h7⟩, t7, f7⟩
  have T7 := Lib.hid t7
  have G7 := Lib.hid f7
  have en1 := h7.n1eq
  have en2 := h7.s2.length
  obtain ⟨wd, hwd⟩ : ∃ wd, World.drew w7 = wd := ⟨_, rfl⟩
  have kd : Keep w7 wd := by rw [← hwd]; exact Keep.drew (Keep.refl w7)
  have hd := h7.keep kd
  have y3 := hd.x3
  have y2 := hd.x2
  have y3' := h7.x3
  have y2' := h7.x2
  obtain ⟨wl, hwl⟩ : ∃ wl, wd.alloc (.cells #[.int .i64 (n1 : Int)] 3) = wl := ⟨_, rfl⟩
  have kl : Keep wd wl := by rw [← hwl]; exact (Keep.refl wd).alloc _ _
  have zl : wl.cell? ⟨wd.heap.size, 0, none⟩ = some (.int .i64 (n1 : Int)) := by rw [← hwl]; exact alloc_cells rfl
  have HL := Lib.hid (hd.keep kl)
  have HK : Hid (Keep w7 wl) := kd.trans kl
  have HWD := Lib.hid hwd
  have HN : Hid (n2 ≤ 1000000) := by show n2 ≤ 1000000; have := HCS.out; omega
  have EN := Lib.hid en1
  clear h7 hd kd kl t7 f7 en1 en2 HS5
  go_wp2_with fail
  refine wp_region_till [14] (fun wz : World => wz.cell? ⟨b, 3, none⟩ = some (.slice A2 n2 c2) ∧ wz.cell? ⟨b, 2, none⟩ = some (.slice A1 n1 c1)) (by kernel_rfl) ?_
  rw [HWD.out]
  have hHeld : (fun wz : World => wz.cell? ⟨b, 3, none⟩ = some (.slice A2 n2 c2) ∧ wz.cell? ⟨b, 2, none⟩ = some (.slice A1 n1 c1)) wd := ⟨y3, y2⟩
  refine wpTill_free (i := 0) (v := ?_) rfl (by kernel_rfl) (by kernel_rfl) (by kernel_rfl) (by kernel_rfl) (fun _ _ _ h => h) (Or.inl ⟨by rfl, ?_⟩) hHeld ?_
  rotate_left
  · intro wq hSw
    go_simp
    all_goals with_reducible rfl
  try simp only [Act.put, List.getElem_toArray, List.getElem_cons_succ, List.getElem_cons_zero, List.setIfInBounds_toArray, List.set_cons_zero, List.set_cons_succ]
  refine wpTill_free (i := 1) (v := ?_) rfl (by kernel_rfl) (by kernel_rfl) (by kernel_rfl) (by kernel_rfl) (fun _ _ _ h => h) (Or.inl ⟨by rfl, ?_⟩) hHeld ?_
  rotate_left
  · intro wq hSw
    go_simp
    all_goals with_reducible rfl
  try simp only [Act.put, List.getElem_toArray, List.getElem_cons_succ, List.getElem_cons_zero, List.setIfInBounds_toArray, List.set_cons_zero, List.set_cons_succ]
  refine wpTill_free (i := 2) (v := ?_) rfl (by kernel_rfl) (by kernel_rfl) (by kernel_rfl) (by kernel_rfl) (fun _ _ _ h => h) (Or.inl ⟨by rfl, ?_⟩) hHeld ?_
  rotate_left
  · intro wq hSw
    go_simp
    all_goals with_reducible rfl
  try simp only [Act.put, List.getElem_toArray, List.getElem_cons_succ, List.getElem_cons_zero, List.setIfInBounds_toArray, List.set_cons_zero, List.set_cons_succ]
  refine wpTill_free (i := 3) (v := ?_) rfl (by kernel_rfl) (by kernel_rfl) (by kernel_rfl) (by kernel_rfl) (fun _ _ _ h => h) (Or.inl ⟨by rfl, ?_⟩) hHeld ?_
  rotate_left
  · intro wq hSw
    go_simp
    all_goals with_reducible rfl
  try simp only [Act.put, List.getElem_toArray, List.getElem_cons_succ, List.getElem_cons_zero, List.setIfInBounds_toArray, List.set_cons_zero, List.set_cons_succ]
  refine wpTill_take (i := 4) (v := ?_) rfl (by kernel_rfl) (by kernel_rfl) (by kernel_rfl) (by kernel_rfl) (fun _ _ _ h => h) (Or.inl ⟨by rfl, ?_⟩) hHeld ?_
  rotate_left
  · intro wq hSw
    have q0_ := hSw.1
    go_simp
    all_goals with_reducible rfl
  try simp only [Act.put, List.getElem_toArray, List.getElem_cons_succ, List.getElem_cons_zero, List.setIfInBounds_toArray, List.set_cons_zero, List.set_cons_succ]
  refine wpTill_free (i := 5) (v := ?_) rfl (by kernel_rfl) (by kernel_rfl) (by kernel_rfl) (by kernel_rfl) (fun _ _ _ h => h) (Or.inl ⟨by rfl, ?_⟩) hHeld ?_
  rotate_left
  · intro wq hSw
    go_simp
    all_goals with_reducible rfl
  try simp only [Act.put, List.getElem_toArray, List.getElem_cons_succ, List.getElem_cons_zero, List.setIfInBounds_toArray, List.set_cons_zero, List.set_cons_succ]
  refine wpTill_free (i := 6) (v := ?_) rfl (by kernel_rfl) (by kernel_rfl) (by kernel_rfl) (by kernel_rfl) (fun _ _ _ h => h) (Or.inl ⟨by rfl, ?_⟩) hHeld ?_
  rotate_left
  · intro wq hSw
    go_simp
    all_goals with_reducible rfl
  try simp only [Act.put, List.getElem_toArray, List.getElem_cons_succ, List.getElem_cons_zero, List.setIfInBounds_toArray, List.set_cons_zero, List.set_cons_succ]
  refine wpTill_free (i := 7) (v := ?_) rfl (by kernel_rfl) (by kernel_rfl) (by kernel_rfl) (by kernel_rfl) (fun _ _ _ h => h) (Or.inl ⟨by rfl, ?_⟩) hHeld ?_
  rotate_left
  · intro wq hSw
    go_simp
    all_goals with_reducible rfl
  try simp only [Act.put, List.getElem_toArray, List.getElem_cons_succ, List.getElem_cons_zero, List.setIfInBounds_toArray, List.set_cons_zero, List.set_cons_succ]
  refine wpTill_take (i := 8) (v := ?_) rfl (by kernel_rfl) (by kernel_rfl) (by kernel_rfl) (by kernel_rfl) (fun _ _ _ h => h) (Or.inl ⟨by rfl, ?_⟩) hHeld ?_
  rotate_left
  · intro wq hSw
    have q0_ := hSw.2
    go_simp
    all_goals with_reducible rfl
  try simp only [Act.put, List.getElem_toArray, List.getElem_cons_succ, List.getElem_cons_zero, List.setIfInBounds_toArray, List.set_cons_zero, List.set_cons_succ]
  refine wpTill_free (i := 9) (v := ?_) rfl (by kernel_rfl) (by kernel_rfl) (by kernel_rfl) (by kernel_rfl) (fun _ _ _ h => h) (Or.inl ⟨by rfl, ?_⟩) hHeld ?_
  rotate_left
  · intro wq hSw
    go_simp
    all_goals with_reducible rfl
  try simp only [Act.put, List.getElem_toArray, List.getElem_cons_succ, List.getElem_cons_zero, List.setIfInBounds_toArray, List.set_cons_zero, List.set_cons_succ]
  refine wpTill_solo (i := 10) (by kernel_rfl) rfl (fun K hK => ?_)
  go_simp
  have hHeld2 : (fun wz : World => wz.cell? ⟨b, 3, none⟩ = some (.slice A2 n2 c2) ∧ wz.cell? ⟨b, 2, none⟩ = some (.slice A1 n1 c1)) wl := ⟨HL.out.x3, HL.out.x2⟩
  refine hK.out _ _ hHeld2 ?_
  clear hK K hHeld
  have hHeld := hHeld2
  clear hHeld2
  try simp only [Act.put, List.getElem_toArray, List.getElem_cons_succ, List.getElem_cons_zero, List.setIfInBounds_toArray, List.set_cons_zero, List.set_cons_succ]
  refine wpTill_solo (i := 11) (by kernel_rfl) rfl (fun K hK => ?_)
  refine wpOp_append_int rfl _ _ 126 rfl Tryz.underlying126 infoInt rfl HL.out.s2 rfl zl HN.out (by omega) ?_
  intro A4 n4 w8 h4 g4 h5
  have t4 : Turned (fun i => (Value.slice A2 n2 c2).ownBlock = some i) wl w8 := Turned.of_grown (F := fun i => (Value.slice A2 n2 c2).ownBlock = some i) g4 fun i e => e
  have hO : OwnI w8 0 A4 (n2 + 1) n4 (cs ++ [xs.length]) := by
    unfold OwnI
    rw [List.map_append, EN.out]
    exact h4
  obtain ⟨p1, p2⟩ := HL.out.put3 t4 hO (h5.imp id fun e => ⟨_, e, Nat.le_refl _⟩)
  obtain ⟨z4, fr⟩ := HL.out.stands t4 fun e => (HL.out.f2 b e).2 rfl
  have hgn : M ++ [openN (P - 4) cs xs] = gensN (P - 4) (cs ++ [xs.length]) xs := by
    rw [HG.out.gens]; exact (gens_cut HG.out.room HO.out).1.symm
  rw [hgn] at p1
  have PW : Hid (Wrote F w b g s xs (cs ++ [xs.length]) (gensN (P - 4) (cs ++ [xs.length]) xs) false (w8.setCell ⟨b, 3, none⟩ (.slice A4 (n2 + 1) n4))) :=
    Wrote.trans (Turned.of_keep K5.out) (fun i e => Or.inl e) (Wrote.trans (G := F7) T7.out G7.out ⟨_, ⟨_, _, _, _, _, _, _, _, _, p1⟩, (Turned.of_keep (F := F7) HK.out).trans p2 fun i e => Or.inl e, fun i hi => hi.new.imp id fun e => Nat.le_trans HK.out.size e⟩)
  have z5 := z4 3 _ HL.out.x3
  have z6 := z4 2 _ HL.out.x2
  have f5 := fr 3
  clear h4 g4 h5 t4 hO p1 p2 z4 fr hgn
  have hHeld2 : (fun wz : World => wz.cell? ⟨b, 3, none⟩ = some (.slice A2 n2 c2) ∧ wz.cell? ⟨b, 2, none⟩ = some (.slice A1 n1 c1)) w8 := ⟨z5, z6⟩
  refine hK.out _ _ hHeld2 ?_
  clear hK K hHeld
  have hHeld := hHeld2
  clear hHeld2
  try simp only [Act.put, List.getElem_toArray, List.getElem_cons_succ, List.getElem_cons_zero, List.setIfInBounds_toArray, List.set_cons_zero, List.set_cons_succ]
  refine wpTill_free (i := 12) (v := ?_) rfl (by kernel_rfl) (by kernel_rfl) (by kernel_rfl) (by kernel_rfl) (fun _ _ _ h => h) (Or.inl ⟨by rfl, ?_⟩) hHeld ?_
  rotate_left
  · intro wq hSw
    go_simp
    all_goals with_reducible rfl
  try simp only [Act.put, List.getElem_toArray, List.getElem_cons_succ, List.getElem_cons_zero, List.setIfInBounds_toArray, List.set_cons_zero, List.set_cons_succ]
  refine wpTill_free (i := 13) (v := ?_) rfl (by kernel_rfl) (by kernel_rfl) (by kernel_rfl) (by kernel_rfl) (fun _ _ _ h => h) (Or.inl ⟨by rfl, ?_⟩) hHeld ?_
  rotate_left
  · intro wq hSw
    go_simp
    all_goals with_reducible rfl
  try simp only [Act.put, List.getElem_toArray, List.getElem_cons_succ, List.getElem_cons_zero, List.setIfInBounds_toArray, List.set_cons_zero, List.set_cons_succ]
  refine wpTill_turn (t := 14) (by kernel_rfl) (by kernel_rfl) (by kernel_rfl) ?_
  clear hHeld
  have hHeld : (fun _ : World => True) w8 := trivial
  refine wpAnyH_ready (rs := [14]) (by kernel_rfl) (by simp) ?_
  refine AllReadyH.cons rfl (fun K hK => ?_) AllReadyH.nil
  go_simp
  refine hK.out _ _ trivial (fun hHeld => ?_)
  clear hK K
  try simp only [Act.put, List.getElem_toArray, List.getElem_cons_succ, List.getElem_cons_zero, List.setIfInBounds_toArray, List.set_cons_zero, List.set_cons_succ]
  refine wpAnyH_done (by kernel_rfl) ?_ _
  clear hHeld
  generalize w8.setCell ⟨b, 3, none⟩ (.slice A4 (n2 + 1) n4) = w9 at *
  go_wp2_with fail
  go_ret
  exact ⟨rfl, PW.out⟩
theorem flush_any {P : Nat} (h : SrcR w F b g s xs cs M cl) (hG : GoodS g s P xs cs M) (hcs : cs.length ≤ 900000) :
    Calls Tryz.prog 26 #[.pointer (some ⟨b, 0, none⟩)] w fun e w' => e = .returned (.int .i64 (flushE cl)) ∧ Wrote F w b g s xs (flushC P cl xs cs) (gensN (P - 4) (flushC P cl xs cs) xs) cl w' := by
  cases cl with
  | true =>
    rw [flushC, if_neg (by simp), ← hG.gens]
    exact (flush_closed h hG).mono fun e w' he => ⟨he.1, h.wrote he.2⟩
  | false =>
    by_cases ho : openN (P - 4) cs xs = []
    · rw [flushC, if_neg (fun e => e.2 ho), ← hG.gens]
      exact (flush_none h hG ho).mono fun e w' he => ⟨he.1, h.wrote he.2⟩
    · rw [flushC, if_pos ⟨rfl, ho⟩]
      exact flush_some h hG ho hcs
end
end Go.Proofs.YtgelalbmhllccaaGreat
