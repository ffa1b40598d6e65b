/- The landed source: a generation is ended; what is full. -/
import Derived.Test.YtcafofffgmaepaaSX
import Derived.Test.YtcafofffgmaepaaOrd2
namespace Go.Proofs.Ytcafofffgmaepaa
open Go.RowKit
set_option linter.unusedVariables false
set_option linter.unusedSimpArgs false
/-- One operation alone may come up. -/
theorem wpTill_solo {P : Program} {md : Region.Mode} {ops : Array Oper} {Q : Exit → Act → World → Prop} {S : World → Prop} {ls : List Nat} {n i : Nat} {o : Oper} {got : Array Bool} {a : Act} {w : World} (hr : Region.ready md ops got = [i]) (ho : ops[i]? = some o)
    (h : ∀ K : Act → World → Prop, Hid (∀ a' w', S w' → wpTill P md ops Q S ls n (got.setIfInBounds i true) a' w' → K a' w') → if Region.wanted o (yielded ops a.tmps) = true then o.wp P a w K Q else K (a.put o.dst undef) w) : wpTill P md ops Q S ls (n + 1) got a w := by
  refine ⟨fun e => absurd (hr.symm.trans e) (by simp), fun j hj => ?_⟩
  rw [hr] at hj
  obtain rfl : j = i := by simpa using hj
  have h2 := h (fun a' w' => (Late ls (got.setIfInBounds j true) ∨ S w') ∧ wpTill P md ops Q S ls n (got.setIfInBounds j true) a' w') (Lib.hid fun a' w' hs ht => ⟨Or.inr hs, ht⟩)
  unfold wpOp
  rw [ho]
  dsimp only
  split
  · rename_i hw
    rw [if_pos hw] at h2
    exact Or.inl h2
  · rename_i hw
    rw [if_neg hw] at h2
    exact h2
/-- .. in a region that draws its order: append(ints, one). -/
theorem wpOp_append_int {P : Program} {w : World} {ops : Array Oper} {o : Oper} {a : Act} {K : Act → World → Prop} {Q : Exit → Act → World → Prop} {E : Prop} (hgd : o.guard = none) (s x : Operand) (t : TypeId)
    (ho : o.op = .call { callee := .builtin .append, args := #[s, x], argTypes := #[t, t] }) {base n c cx e : Nat} {A : Option Addr} {l : List Value} {ad : Addr} {y : Int} (ht : P.underlying t = some (.slice e))
    (hi : (P.info? e).map (fun i => (i.zero, i.size, i.bytes)) = some (some (.int .i64 0), 1, 8)) (hs : a.eval s = .slice A n c) (hown : w.ownsRow base e 1 (.slice A n c) n l) (hx0 : a.eval x = .slice (some ad) 1 cx) (hx : w.cell? ad = some (.int .i64 y)) (hlen : n ≤ 1000000) (hbase : base ≤ w.heap.size)
    (h : ∀ A2 c2 w', w'.ownsRow base e 1 (.slice A2 (n + 1) c2) (n + 1) (l ++ [.int .i64 y]) → w.grownBy w' (Value.slice A n c).ownBlock → ((Value.slice A2 (n + 1) c2).ownBlock = (Value.slice A n c).ownBlock ∨ (Value.slice A2 (n + 1) c2).ownBlock = some w.heap.size) → K (a.put o.dst (.slice A2 (n + 1) c2)) w') :
    if Region.wanted o (yielded ops a.tmps) = true then Oper.wp P o a w K Q else E := by
  have hw : Region.wanted o (yielded ops a.tmps) = true := by simp [Region.wanted, hgd]
  rw [if_pos hw]
  obtain ⟨A2, c2, w', hr, h2, h3, h5⟩ := run_append_int (P := P) (cx := cx) ht hi hown hx hlen hbase o.type
  unfold Oper.wp execOp
  simp only [ho, resolve, invoke, builtin, Sem.run_bind, Sem.run_pure, Result.andThen_ok, List.map_toArray, List.map_cons, List.map_nil, hs, hx0, hr]
  exact h A2 c2 w' h2 h3 h5
section
variable {w w' : World} {F G : Nat → Prop} {b g s : Nat} {A1 : Option Addr} {n1 c1 : Nat} {A2 : Option Addr} {n2 c2 : Nat} {A3 : Option Addr} {n3 c3 : Nat} {xs cs : List Nat} {M : List (List Nat)} {cl : Bool}
/-- A source in some place, its blocks those of F. -/
def SrcR (w : World) (F : Nat → Prop) (b g s : Nat) (xs cs : List Nat) (M : List (List Nat)) (cl : Bool) : Prop :=
  ∃ A1 n1 c1 A2 n2 c2 A3 n3 c3, SrcA w F b g s A1 n1 c1 A2 n2 c2 A3 n3 c3 xs cs M cl
theorem SrcR.turned (h : SrcR w F b g s xs cs M cl) (k : Turned G w w') (hd : ∀ i, F i → ¬ G i) : SrcR w' F b g s xs cs M cl := by
  obtain ⟨A1, n1, c1, A2, n2, c2, A3, n3, c3, h⟩ := h
  exact ⟨_, _, _, _, _, _, _, _, _, h.turned k hd⟩
theorem SrcR.keep (h : SrcR w F b g s xs cs M cl) (k : Keep w w') : SrcR w' F b g s xs cs M cl := h.turned (Turned.of_keep (F := fun _ => False) k) fun _ _ e => e
theorem SrcR.lt (h : SrcR w F b g s xs cs M cl) : ∀ i, F i → i < w.heap.size := by
  obtain ⟨A1, n1, c1, A2, n2, c2, A3, n3, c3, h⟩ := h
  exact h.lt
theorem SrcR.at_ (h : SrcR w F b g s xs cs M cl) : F b := by
  obtain ⟨A1, n1, c1, A2, n2, c2, A3, n3, c3, h⟩ := h
  exact h.f0
theorem SrcR.wider (h : SrcR w F b g s xs cs M cl) {F' : Nat → Prop} (hF : ∀ i, F i → F' i) (hl : ∀ i, F' i → i < w.heap.size) : SrcR w F' b g s xs cs M cl := by
  obtain ⟨A1, n1, c1, A2, n2, c2, A3, n3, c3, h⟩ := h
  exact ⟨_, _, _, _, _, _, _, _, _, h.wider hF hl⟩
/-- What a call hands back that writes to the source. -/
def Wrote (F : Nat → Prop) (w : World) (b g s : Nat) (xs cs : List Nat) (M : List (List Nat)) (cl : Bool) (w' : World) : Prop :=
  ∃ F', SrcR w' F' b g s xs cs M cl ∧ Turned F w w' ∧ ∀ i, F' i → F i ∨ w.heap.size ≤ i
theorem Wrote.trans {w1 w2 : World} {xs' cs' : List Nat} {M' : List (List Nat)} {cl' : Bool} (h : Turned F w w1) (hF : ∀ i, G i → F i ∨ w.heap.size ≤ i) (k : Wrote G w1 b g s xs' cs' M' cl' w2) : Wrote F w b g s xs' cs' M' cl' w2 := by
  obtain ⟨F', h1, h2, h3⟩ := k
  refine ⟨F', h1, h.trans h2 hF, fun i hi => ?_⟩
  rcases h3 i hi with e | e
  · exact hF i e
  · exact Or.inr (Nat.le_trans h.size e)
/-- Its cells, when a row of its own has grown. -/
theorem SrcA.stands (h : SrcA w F b g s A1 n1 c1 A2 n2 c2 A3 n3 c3 xs cs M cl) (t : Turned G w w') (hb : ¬ G b) : (∀ i v, w.cell? ⟨b, i, none⟩ = some v → w'.cell? ⟨b, i, none⟩ = some v) ∧ ∀ i, w'.frozen? ⟨b, i, none⟩ = false := by
  have hblk : w'.heap[b]? = _ := (t.block b h.blt hb).trans h.block
  exact ⟨fun i v hv => t.cell (p := ⟨b, i, none⟩) hv hb, fun i => by simp [World.frozen?, hblk]⟩
set_option maxRecDepth 100000 in
set_option maxHeartbeats 2000000 in
/-- A generation of the first n open bytes. -/
theorem end_any (h : SrcR w F b g s xs cs M cl) (n f : Nat) (hf : M.flatten.length = f) (hm : M.length ≤ 900000) (hn : f + n ≤ 140737488351232) (M' : List (List Nat)) (hM : endsN M' = endsN M ++ [f + n]) :
    Calls Try.prog 49 #[.pointer (some ⟨b, 0, none⟩), .int .i64 (n : Int)] w fun e w' => e = .returned (.tuple #[]) ∧ Wrote F w b g s xs cs M' cl w' := by
  obtain ⟨A1, n1, c1, A2, n2, c2, A3, n3, c3, h⟩ := h
  have e3 := h.n3eq
  obtain ⟨wd, hwd⟩ : ∃ wd, World.drew w = wd := ⟨_, rfl⟩
  have kd : Keep w wd := by rw [← hwd]; exact Keep.drew (Keep.refl w)
  have hd := h.keep kd
  have C0 : Hid (Calls Try.prog 88 #[.pointer (some ⟨b, 0, none⟩), .int .i64 (n3 : Int)] wd fun e w' => e = .returned (.int .i64 (f : Int)) ∧ w' = wd) := by
    have := start_any hd M.length f (Nat.le_refl _) (by omega) (by rw [startN_all, hf])
    rw [e3] at this
    exact this.mono fun e w' h => ⟨h.1, h.2.symm⟩
  have y4 := hd.x4
  have y4' := h.x4
  obtain ⟨t, ht⟩ : ∃ t, f + n = t := ⟨_, rfl⟩
  rw [ht] at hM
  have q1 : (f : Int) + (n : Int) = (t : Int) := by omega
  have q2 : IntKind.i64.wrap (t : Int) = (t : Int) := IntWalk.i64_in _ (by omega)
  have q3 : IntKind.i64.wrap ((f : Int) + (n : Int)) = (t : Int) := by rw [q1, q2]
  obtain ⟨wl, hwl⟩ : ∃ wl, wd.alloc (.cells #[.int .i64 (t : Int)] 3) = wl := ⟨_, rfl⟩
  have kl : Keep wd wl := by rw [← hwl]; exact (Keep.refl wd).alloc _ _
  have zl : wl.cell? ⟨wd.heap.size, 0, none⟩ = some (.int .i64 (t : Int)) := by rw [← hwl]; exact alloc_cells rfl
  have HL := Lib.hid (hd.keep kl)
  have HK : Hid (Keep w wl) := kd.trans kl
  have HM := Lib.hid hM
  have HWD := Lib.hid hwd
  have HN : Hid (n3 ≤ 1000000) := by show n3 ≤ 1000000; omega
  clear h hd hf hm hn hM kd kl e3 ht
  go_enter Try.func49, Try.ntmps49
  go_wp2_with fail
  refine wp_region_till [18] (fun wz : World => wz.cell? ⟨b, 4, none⟩ = some (.slice A3 n3 c3)) (by kernel_rfl) ?_
  rw [HWD.out]
  have hHeld : (fun wz : World => wz.cell? ⟨b, 4, none⟩ = some (.slice A3 n3 c3)) wd := y4
  refine wpTill_free (i := 0) (v := ?_) rfl (by kernel_rfl) (by kernel_rfl) (by kernel_rfl) (by kernel_rfl) (fun _ _ _ h => h) (Or.inl ⟨by rfl, ?_⟩) hHeld ?_
  rotate_left
  · intro wq hSw
    go_simp
    all_goals with_reducible rfl
  try simp only [Act.put, List.getElem_toArray, List.getElem_cons_succ, List.getElem_cons_zero, List.setIfInBounds_toArray, List.set_cons_zero, List.set_cons_succ]
  refine wpTill_free (i := 1) (v := ?_) rfl (by kernel_rfl) (by kernel_rfl) (by kernel_rfl) (by kernel_rfl) (fun _ _ _ h => h) (Or.inl ⟨by rfl, ?_⟩) hHeld ?_
  rotate_left
  · intro wq hSw
    go_simp
    all_goals with_reducible rfl
  try simp only [Act.put, List.getElem_toArray, List.getElem_cons_succ, List.getElem_cons_zero, List.setIfInBounds_toArray, List.set_cons_zero, List.set_cons_succ]
  refine wpTill_free (i := 2) (v := ?_) rfl (by kernel_rfl) (by kernel_rfl) (by kernel_rfl) (by kernel_rfl) (fun _ _ _ h => h) (Or.inl ⟨by rfl, ?_⟩) hHeld ?_
  rotate_left
  · intro wq hSw
    go_simp
    all_goals with_reducible rfl
  try simp only [Act.put, List.getElem_toArray, List.getElem_cons_succ, List.getElem_cons_zero, List.setIfInBounds_toArray, List.set_cons_zero, List.set_cons_succ]
  refine wpTill_free (i := 3) (v := ?_) rfl (by kernel_rfl) (by kernel_rfl) (by kernel_rfl) (by kernel_rfl) (fun _ _ _ h => h) (Or.inl ⟨by rfl, ?_⟩) hHeld ?_
  rotate_left
  · intro wq hSw
    go_simp
    all_goals with_reducible rfl
  try simp only [Act.put, List.getElem_toArray, List.getElem_cons_succ, List.getElem_cons_zero, List.setIfInBounds_toArray, List.set_cons_zero, List.set_cons_succ]
  refine wpTill_take (i := 4) (v := ?_) rfl (by kernel_rfl) (by kernel_rfl) (by kernel_rfl) (by kernel_rfl) (fun _ _ _ h => h) (Or.inl ⟨by rfl, ?_⟩) hHeld ?_
  rotate_left
  · intro wq hSw
    have q0_ := hSw
    go_simp
    all_goals with_reducible rfl
  try simp only [Act.put, List.getElem_toArray, List.getElem_cons_succ, List.getElem_cons_zero, List.setIfInBounds_toArray, List.set_cons_zero, List.set_cons_succ]
  refine wpTill_free (i := 5) (v := ?_) rfl (by kernel_rfl) (by kernel_rfl) (by kernel_rfl) (by kernel_rfl) (fun _ _ _ h => h) (Or.inl ⟨by rfl, ?_⟩) hHeld ?_
  rotate_left
  · intro wq hSw
    go_simp
    all_goals with_reducible rfl
  try simp only [Act.put, List.getElem_toArray, List.getElem_cons_succ, List.getElem_cons_zero, List.setIfInBounds_toArray, List.set_cons_zero, List.set_cons_succ]
  refine wpTill_free (i := 6) (v := ?_) rfl (by kernel_rfl) (by kernel_rfl) (by kernel_rfl) (by kernel_rfl) (fun _ _ _ h => h) (Or.inl ⟨by rfl, ?_⟩) hHeld ?_
  rotate_left
  · intro wq hSw
    go_simp
    all_goals with_reducible rfl
  try simp only [Act.put, List.getElem_toArray, List.getElem_cons_succ, List.getElem_cons_zero, List.setIfInBounds_toArray, List.set_cons_zero, List.set_cons_succ]
  refine wpTill_free (i := 7) (v := ?_) rfl (by kernel_rfl) (by kernel_rfl) (by kernel_rfl) (by kernel_rfl) (fun _ _ _ h => h) (Or.inl ⟨by rfl, ?_⟩) hHeld ?_
  rotate_left
  · intro wq hSw
    go_simp
    all_goals with_reducible rfl
  try simp only [Act.put, List.getElem_toArray, List.getElem_cons_succ, List.getElem_cons_zero, List.setIfInBounds_toArray, List.set_cons_zero, List.set_cons_succ]
  refine wpTill_free (i := 8) (v := ?_) rfl (by kernel_rfl) (by kernel_rfl) (by kernel_rfl) (by kernel_rfl) (fun _ _ _ h => h) (Or.inl ⟨by rfl, ?_⟩) hHeld ?_
  rotate_left
  · intro wq hSw
    go_simp
    all_goals with_reducible rfl
  try simp only [Act.put, List.getElem_toArray, List.getElem_cons_succ, List.getElem_cons_zero, List.setIfInBounds_toArray, List.set_cons_zero, List.set_cons_succ]
  refine wpTill_take (i := 9) (v := ?_) rfl (by kernel_rfl) (by kernel_rfl) (by kernel_rfl) (by kernel_rfl) (fun _ _ _ h => h) (Or.inl ⟨by rfl, ?_⟩) hHeld ?_
  rotate_left
  · intro wq hSw
    have q0_ := hSw
    go_simp
    all_goals with_reducible rfl
  try simp only [Act.put, List.getElem_toArray, List.getElem_cons_succ, List.getElem_cons_zero, List.setIfInBounds_toArray, List.set_cons_zero, List.set_cons_succ]
  refine wpTill_free (i := 10) (v := ?_) rfl (by kernel_rfl) (by kernel_rfl) (by kernel_rfl) (by kernel_rfl) (fun _ _ _ h => h) (Or.inl ⟨by rfl, ?_⟩) hHeld ?_
  rotate_left
  · intro wq hSw
    go_simp
    all_goals with_reducible rfl
  try simp only [Act.put, List.getElem_toArray, List.getElem_cons_succ, List.getElem_cons_zero, List.setIfInBounds_toArray, List.set_cons_zero, List.set_cons_succ]
  refine wpTill_free (i := 12) (v := ?_) rfl (by kernel_rfl) (by kernel_rfl) (by kernel_rfl) (by kernel_rfl) (fun _ _ _ h => h) (Or.inl ⟨by rfl, ?_⟩) hHeld ?_
  rotate_left
  · intro wq hSw
    go_simp
    all_goals with_reducible rfl
  try simp only [Act.put, List.getElem_toArray, List.getElem_cons_succ, List.getElem_cons_zero, List.setIfInBounds_toArray, List.set_cons_zero, List.set_cons_succ]
  refine wpTill_solo (i := 11) (by kernel_rfl) rfl (fun K hK => ?_)
  go_simp
  refine C0.out.mono ?_
  rintro e w_1 ⟨rfl, rfl⟩
  have hHeld2 : (fun wz : World => wz.cell? ⟨b, 4, none⟩ = some (.slice A3 n3 c3)) _ := y4
  refine hK.out _ _ hHeld2 ?_
  clear hK K hHeld
  have hHeld := hHeld2
  clear hHeld2
  try simp only [Act.put, List.getElem_toArray, List.getElem_cons_succ, List.getElem_cons_zero, List.setIfInBounds_toArray, List.set_cons_zero, List.set_cons_succ]
  refine wpTill_free (i := 13) (v := ?_) rfl (by kernel_rfl) (by kernel_rfl) (by kernel_rfl) (by kernel_rfl) (fun _ _ _ h => h) (Or.inl ⟨by rfl, ?_⟩) hHeld ?_
  rotate_left
  · intro wq hSw
    go_simp
    all_goals with_reducible rfl
  try simp only [Act.put, List.getElem_toArray, List.getElem_cons_succ, List.getElem_cons_zero, List.setIfInBounds_toArray, List.set_cons_zero, List.set_cons_succ]
  refine wpTill_solo (i := 14) (by kernel_rfl) rfl (fun K hK => ?_)
  go_simp
  have hHeld2 : (fun wz : World => wz.cell? ⟨b, 4, none⟩ = some (.slice A3 n3 c3)) wl := HL.out.x4
  refine hK.out _ _ hHeld2 ?_
  clear hK K hHeld
  have hHeld := hHeld2
  clear hHeld2
  try simp only [Act.put, List.getElem_toArray, List.getElem_cons_succ, List.getElem_cons_zero, List.setIfInBounds_toArray, List.set_cons_zero, List.set_cons_succ]
  refine wpTill_solo (i := 15) (by kernel_rfl) rfl (fun K hK => ?_)
  refine wpOp_append_int rfl _ _ 23 rfl Try.underlying23 infoInt rfl HL.out.s3 rfl zl HN.out (by omega) ?_
  intro A4 n4 w4 h4 g4 h5
  have t4 : Turned (fun i => (Value.slice A3 n3 c3).ownBlock = some i) wl w4 := Turned.of_grown (F := fun i => (Value.slice A3 n3 c3).ownBlock = some i) g4 fun i e => e
  have hO : OwnI w4 0 A4 (n3 + 1) n4 (endsN M') := by
    unfold OwnI
    rw [HM.out, List.map_append]
    exact h4
  obtain ⟨p1, p2⟩ := HL.out.put4 t4 hO (h5.imp id fun e => ⟨_, e, Nat.le_refl _⟩)
  obtain ⟨z4, fr⟩ := HL.out.stands t4 fun e => (HL.out.f3 b e).2 rfl
  have PW : Hid (Wrote F w b g s xs cs M' cl (w4.setCell ⟨b, 4, none⟩ (.slice A4 (n3 + 1) n4))) := ⟨_, ⟨_, _, _, _, _, _, _, _, _, p1⟩, (Turned.of_keep (F := F) HK.out).trans p2 fun i e => Or.inl e, fun i hi => hi.new.imp id fun e => Nat.le_trans HK.out.size e⟩
  have z5 := z4 4 _ HL.out.x4
  have f5 := fr 4
  clear h4 g4 h5 t4 hO p1 p2 z4 fr
  have hHeld2 : (fun wz : World => wz.cell? ⟨b, 4, none⟩ = some (.slice A3 n3 c3)) w4 := z5
  refine hK.out _ _ hHeld2 ?_
  clear hK K hHeld
  have hHeld := hHeld2
  clear hHeld2
  try simp only [Act.put, List.getElem_toArray, List.getElem_cons_succ, List.getElem_cons_zero, List.setIfInBounds_toArray, List.set_cons_zero, List.set_cons_succ]
  refine wpTill_free (i := 16) (v := ?_) rfl (by kernel_rfl) (by kernel_rfl) (by kernel_rfl) (by kernel_rfl) (fun _ _ _ h => h) (Or.inl ⟨by rfl, ?_⟩) hHeld ?_
  rotate_left
  · intro wq hSw
    go_simp
    all_goals with_reducible rfl
  try simp only [Act.put, List.getElem_toArray, List.getElem_cons_succ, List.getElem_cons_zero, List.setIfInBounds_toArray, List.set_cons_zero, List.set_cons_succ]
  refine wpTill_free (i := 17) (v := ?_) rfl (by kernel_rfl) (by kernel_rfl) (by kernel_rfl) (by kernel_rfl) (fun _ _ _ h => h) (Or.inl ⟨by rfl, ?_⟩) hHeld ?_
  rotate_left
  · intro wq hSw
    go_simp
    all_goals with_reducible rfl
  try simp only [Act.put, List.getElem_toArray, List.getElem_cons_succ, List.getElem_cons_zero, List.setIfInBounds_toArray, List.set_cons_zero, List.set_cons_succ]
  refine wpTill_turn (t := 18) (by kernel_rfl) (by kernel_rfl) (by kernel_rfl) ?_
  clear hHeld
  have hHeld : (fun _ : World => True) w4 := trivial
  refine wpAnyH_ready (rs := [18]) (by kernel_rfl) (by simp) ?_
  refine AllReadyH.cons rfl (fun K hK => ?_) AllReadyH.nil
  go_simp
  refine hK.out _ _ trivial (fun hHeld => ?_)
  clear hK K
  try simp only [Act.put, List.getElem_toArray, List.getElem_cons_succ, List.getElem_cons_zero, List.setIfInBounds_toArray, List.set_cons_zero, List.set_cons_succ]
  refine wpAnyH_done (by kernel_rfl) ?_ _
  clear hHeld
  go_wp2_with fail
  go_end0
  exact ⟨rfl, PW.out⟩
end
end Go.Proofs.Ytcafofffgmaepaa
/- The landed source: Flush, Close. -/
namespace Go.Proofs.Ytcafofffgmaepaa
open Go.RowKit
set_option linter.unusedVariables false
set_option linter.unusedSimpArgs false
/-- What a source's numbers keep: its sizes, cuts within the stream, its generations. -/
structure GoodS (g s P : Nat) (xs cs : List Nat) (M : List (List Nat)) : Prop where
  size : SizeS g s P
  le : ∀ c ∈ cs, c ≤ xs.length
  up : ∀ (i j x y : Nat), i ≤ j → cs[i]? = some x → cs[j]? = some y → x ≤ y
  gens : M = gensN (P - 4) cs xs
  len : xs.length ≤ 262144
def flushE (cl : Bool) : Int := if cl then 27 else 0
def flushC (P : Nat) (cl : Bool) (xs cs : List Nat) : List Nat := if cl = false ∧ openN (P - 4) cs xs ≠ [] then cs ++ [xs.length] else cs
theorem flat_each {M : List (List Nat)} (h : ∀ r ∈ M, 1 ≤ r.length) : M.length ≤ M.flatten.length := by
  induction M with
  | nil => simp
  | cons r l ih =>
    have := h r (by simp)
    have := ih fun q hq => h q (by simp [hq])
    simp only [List.length_cons, List.flatten_cons, List.length_append]; omega
namespace GoodS
variable {g s P : Nat} {xs cs : List Nat} {M : List (List Nat)}
theorem room (h : GoodS g s P xs cs M) : 1 ≤ P - 4 := by have := h.size.lo; omega
theorem flat (h : GoodS g s P xs cs M) : M.flatten.length = fromN (P - 4) cs xs := by rw [h.gens]; exact gens_flen h.room
theorem from_ (h : GoodS g s P xs cs M) : fromN (P - 4) cs xs ≤ xs.length := from_le h.room
theorem openL (h : GoodS g s P xs cs M) : xs.length = M.flatten.length + (openN (P - 4) cs xs).length := by
  have := h.from_
  rw [h.flat, open_flen]; omega
theorem few (h : GoodS g s P xs cs M) : M.length ≤ 262144 := by
  have h1 := flat_each (M := M) (by rw [h.gens]; exact fun r hr => (gens_each h.room r hr).1)
  have h2 := h.flat
  have h3 := h.from_
  have h4 := h.len
  omega
theorem flush (h : GoodS g s P xs cs M) (cl : Bool) : GoodS g s P xs (flushC P cl xs cs) (gensN (P - 4) (flushC P cl xs cs) xs) := by
  refine ⟨h.size, ?_, ?_, rfl, h.len⟩
  · unfold flushC
    split
    · intro c hc
      rcases List.mem_append.1 hc with hc | hc
      · exact h.le c hc
      · rw [List.mem_singleton] at hc; omega
    · exact h.le
  · unfold flushC
    split
    · intro i j x y hij hi hj
      have hle : ∀ k v, (cs ++ [xs.length])[k]? = some v → v ≤ xs.length := fun k v hv => by
        rcases List.mem_append.1 (List.mem_of_getElem? hv) with hc | hc
        · exact h.le v hc
        · rw [List.mem_singleton] at hc; omega
      rcases Nat.lt_or_ge j cs.length with h1 | h1
      · rw [List.getElem?_append_left (by omega)] at hi
        rw [List.getElem?_append_left h1] at hj
        exact h.up i j x y hij hi hj
      · rw [List.getElem?_append_right h1] at hj
        have hy : y = xs.length := by
          rcases Nat.eq_zero_or_pos (j - cs.length) with e | e
          · rw [e] at hj; simpa using hj.symm
          · rw [List.getElem?_eq_none (by simp; omega)] at hj; cases hj
        rw [hy]; exact hle i x hi
    · exact h.up
end GoodS
section
variable {w w' : World} {F G : Nat → Prop} {b g s : Nat} {A1 : Option Addr} {n1 c1 : Nat} {A2 : Option Addr} {n2 c2 : Nat} {A3 : Option Addr} {n3 c3 : Nat} {xs cs : List Nat} {M : List (List Nat)} {cl : Bool}
theorem SrcR.wrote (h : SrcR w F b g s xs cs M cl) (k : Keep w w') : Wrote F w b g s xs cs M cl w' := ⟨F, h.keep k, Turned.of_keep k, fun i hi => Or.inl hi⟩
theorem AskV.form {v : Value} {p : Prop} {r : Int} (h : AskV w v p r) : ∃ i j : Nat, v = .func (.func 84) #[] #[.pointer (some ⟨i, 0, none⟩), .pointer (some ⟨j, 0, none⟩)] := by
  obtain ⟨i, j, e, _⟩ := h
  exact ⟨i, j, e⟩
/-- What is told first of a source: closed or not. -/
theorem told2 (h : SrcA w F b g s A1 n1 c1 A2 n2 c2 A3 n3 c3 xs cs M cl) (hg : 1 ≤ g) {w1 w2 : World} {v1 v2 : Value} {r2 : Int} (k2 : Keep w1 w2) (a1 : AskV w1 v1 True 0) (a2 : AskV w2 v2 True r2) (c : Nat) (t : TypeId) :
    Calls Try.prog 41 #[.slice (some ⟨w2.heap.size, 0, none⟩) 2 c] (w2.alloc (.cells #[v1, v2] t)) fun e w' => e = .returned (.int .i64 r2) ∧ ∃ m, w' = (w2.alloc (.cells #[v1, v2] t)).drewN m := first2 v1 v2 0 r2 w2 (a1.keep k2) (a2.weak fun _ => trivial) c t
theorem flush_nil (w : World) : Calls Try.prog 16 #[.pointer none] w fun e w' => e = .returned (.int .i64 2) ∧ Keep w w' := by
  go_enter Try.func16, Try.ntmps16
  go_wp2_with fail
  refine (isnone_nil w).mono ?_
  rintro e w1 ⟨v1, rfl, k1, a1⟩
  obtain ⟨i1, j1, rfl⟩ := a1.form
  have K1 := Lib.hid k1
  have A1 := Lib.hid a1
  clear k1 a1
  go_wp2_with fail
  refine (isclosed_nil w1).mono ?_
  rintro e w2 ⟨v2, rfl, k2, a2⟩
  obtain ⟨i2, j2, rfl⟩ := a2.form
  have K2 := Lib.hid k2
  have A2 := Lib.hid (a2.weak (q := (2 : Int) = 0) (fun e => by omega))
  clear k2 a2
  go_wp2_with fail
  refine (first2 _ _ 2 0 w2 (A1.out.keep K2.out) A2.out _ _).mono ?_
  rintro e w4 ⟨rfl, m, hw4⟩
  rw [show or2 2 0 = 2 from rfl]
  have K3 : Hid (Keep w w4) := by show Keep w w4; rw [hw4]; exact ((K1.out.trans K2.out).alloc _ _).drewN m
  clear hw4
  go_wp2_with fail
  go_ret
  exact ⟨rfl, K3.out⟩
set_option maxHeartbeats 1000000 in
theorem flush_closed {P : Nat} (h : SrcR w F b g s xs cs M true) (hG : GoodS g s P xs cs M) :
    Calls Try.prog 16 #[.pointer (some ⟨b, 0, none⟩)] w fun e w' => e = .returned (.int .i64 27) ∧ Keep w w' := by
  obtain ⟨A1, n1, c1, A2, n2, c2, A3, n3, c3, h⟩ := h
  have hg := hG.size.g0
  have H0 := Lib.hid h
  have HG := Lib.hid hG
  clear h hG
  go_enter Try.func16, Try.ntmps16
  go_wp2_with fail
  refine (isnone_any H0.out hg).mono ?_
  rintro e w1 ⟨v1, rfl, k1, a1⟩
  obtain ⟨i1, j1, rfl⟩ := a1.form
  have K1 := Lib.hid k1
  have V1 := Lib.hid a1
  clear k1 a1
  go_wp2_with fail
  refine (isclosed_any (H0.out.keep K1.out) 27 rfl).mono ?_
  rintro e w2 ⟨v2, rfl, k2, a2⟩
  obtain ⟨i2, j2, rfl⟩ := a2.form
  have K2 := Lib.hid k2
  have V2 := Lib.hid a2
  clear k2 a2
  go_wp2_with fail
  refine (told2 H0.out hg K2.out V1.out V2.out _ _).mono ?_
  rintro e w4 ⟨rfl, m, hw4⟩
  have K3 : Hid (Keep w w4) := by show Keep w w4; rw [hw4]; exact ((K1.out.trans K2.out).alloc _ _).drewN m
  clear hw4
  clear K1 V1 K2 V2
  go_wp2_with fail
  go_ret
  exact ⟨rfl, K3.out⟩
set_option maxHeartbeats 1000000 in
theorem flush_none {P : Nat} (h : SrcR w F b g s xs cs M false) (hG : GoodS g s P xs cs M) (ho : openN (P - 4) cs xs = []) :
    Calls Try.prog 16 #[.pointer (some ⟨b, 0, none⟩)] w fun e w' => e = .returned (.int .i64 0) ∧ Keep w w' := by
  obtain ⟨A1, n1, c1, A2, n2, c2, A3, n3, c3, h⟩ := h
  have hg := hG.size.g0
  have H0 := Lib.hid h
  have HG := Lib.hid hG
  have HO := Lib.hid ho
  clear ho
  clear h hG
  go_enter Try.func16, Try.ntmps16
  go_wp2_with fail
  refine (isnone_any H0.out hg).mono ?_
  rintro e w1 ⟨v1, rfl, k1, a1⟩
  obtain ⟨i1, j1, rfl⟩ := a1.form
  have K1 := Lib.hid k1
  have V1 := Lib.hid a1
  clear k1 a1
  go_wp2_with fail
  refine (isclosed_any (H0.out.keep K1.out) 0 rfl).mono ?_
  rintro e w2 ⟨v2, rfl, k2, a2⟩
  obtain ⟨i2, j2, rfl⟩ := a2.form
  have K2 := Lib.hid k2
  have V2 := Lib.hid a2
  clear k2 a2
  go_wp2_with fail
  refine (told2 H0.out hg K2.out V1.out V2.out _ _).mono ?_
  rintro e w4 ⟨rfl, m, hw4⟩
  have K3 : Hid (Keep w w4) := by show Keep w w4; rw [hw4]; exact ((K1.out.trans K2.out).alloc _ _).drewN m
  clear hw4
  clear K1 V1 K2 V2
  go_wp2_with fail
  refine (open_any (H0.out.keep K3.out) _ 0 rfl (by have := HG.out.openL; rw [HO.out] at this; exact this) (by have := HG.out.few; omega) (by have := HG.out.len; omega)).mono ?_
  rintro e w5 ⟨rfl, m2, rfl⟩
  have K5 : Hid (Keep w (w4.drewN m2)) := K3.out.drewN m2
  generalize w4.drewN m2 = w6 at *
  go_wp2_with fail
  go_ret
  exact ⟨rfl, K5.out⟩
set_option maxRecDepth 100000 in
set_option maxHeartbeats 4000000 in
theorem flush_some {P : Nat} (h : SrcR w F b g s xs cs M false) (hG : GoodS g s P xs cs M) (ho : openN (P - 4) cs xs ≠ []) (hcs : cs.length ≤ 900000) :
    Calls Try.prog 16 #[.pointer (some ⟨b, 0, none⟩)] w fun e w' => e = .returned (.int .i64 0) ∧ Wrote F w b g s xs (cs ++ [xs.length]) (gensN (P - 4) (cs ++ [xs.length]) xs) false w' := by
  obtain ⟨o, hol⟩ : ∃ o, (openN (P - 4) cs xs).length = o := ⟨_, rfl⟩
  have ho1 : 1 ≤ o := by
    rcases Nat.eq_zero_or_pos o with e | e
    · rw [e] at hol; exact absurd (List.eq_nil_of_length_eq_zero hol) ho
    · exact e
  have ho2 : o ≤ 262144 := by have := hG.openL; have := hG.len; omega
  obtain ⟨A1, n1, c1, A2, n2, c2, A3, n3, c3, h⟩ := h
  have hg := hG.size.g0
  have H0 := Lib.hid h
  have HG := Lib.hid hG
  have HO := Lib.hid ho
  have HOL := Lib.hid hol
  have HCS := Lib.hid hcs
  clear ho hol hcs
  clear h hG
  go_enter Try.func16, Try.ntmps16
  go_wp2_with fail
  refine (isnone_any H0.out hg).mono ?_
  rintro e w1 ⟨v1, rfl, k1, a1⟩
  obtain ⟨i1, j1, rfl⟩ := a1.form
  have K1 := Lib.hid k1
  have V1 := Lib.hid a1
  clear k1 a1
  go_wp2_with fail
  refine (isclosed_any (H0.out.keep K1.out) 0 rfl).mono ?_
  rintro e w2 ⟨v2, rfl, k2, a2⟩
  obtain ⟨i2, j2, rfl⟩ := a2.form
  have K2 := Lib.hid k2
  have V2 := Lib.hid a2
  clear k2 a2
  go_wp2_with fail
  refine (told2 H0.out hg K2.out V1.out V2.out _ _).mono ?_
  rintro e w4 ⟨rfl, m, hw4⟩
  have K3 : Hid (Keep w w4) := by show Keep w w4; rw [hw4]; exact ((K1.out.trans K2.out).alloc _ _).drewN m
  clear hw4
  clear K1 V1 K2 V2
  go_wp2_with fail
  refine (open_any (H0.out.keep K3.out) _ o rfl (by have := HG.out.openL; rw [HOL.out] at this; exact this) (by have := HG.out.few; omega) (by have := HG.out.len; omega)).mono ?_
  rintro e w5 ⟨rfl, m2, rfl⟩
  have K5 : Hid (Keep w (w4.drewN m2)) := K3.out.drewN m2
  have HS5 : Hid (SrcR (w4.drewN m2) F b g s xs cs M false) := ⟨_, _, _, _, _, _, _, _, _, H0.out.keep K5.out⟩
  generalize w4.drewN m2 = w6 at *
  clear K3 H0
  go_wp2_with fail
  refine (end_any HS5.out o _ rfl (by have := HG.out.few; omega) (by have h1 := HG.out.openL; have h2 := HG.out.len; rw [HOL.out] at h1; omega) (M ++ [openN (P - 4) cs xs]) (by rw [endsN_more, HOL.out])).mono ?_
  rintro e w7 ⟨rfl, F7, ⟨A1, n1, c1, A2, n2, c2, A3, n3, c3, h7⟩, t7, f7⟩
  have T7 := Lib.hid t7
  have G7 := Lib.hid f7
  have en1 := h7.n1eq
  have en2 := h7.s2.length
  obtain ⟨wd, hwd⟩ : ∃ wd, World.drew w7 = wd := ⟨_, rfl⟩
  have kd : Keep w7 wd := by rw [← hwd]; exact Keep.drew (Keep.refl w7)
  have hd := h7.keep kd
  have y3 := hd.x3
  have y2 := hd.x2
  have y3' := h7.x3
  have y2' := h7.x2
  obtain ⟨wl, hwl⟩ : ∃ wl, wd.alloc (.cells #[.int .i64 (n1 : Int)] 3) = wl := ⟨_, rfl⟩
  have kl : Keep wd wl := by rw [← hwl]; exact (Keep.refl wd).alloc _ _
  have zl : wl.cell? ⟨wd.heap.size, 0, none⟩ = some (.int .i64 (n1 : Int)) := by rw [← hwl]; exact alloc_cells rfl
  have HL := Lib.hid (hd.keep kl)
  have HK : Hid (Keep w7 wl) := kd.trans kl
  have HWD := Lib.hid hwd
  have HN : Hid (n2 ≤ 1000000) := by show n2 ≤ 1000000; have := HCS.out; omega
  have EN := Lib.hid en1
  clear h7 hd kd kl t7 f7 en1 en2 HS5
  go_wp2_with fail
  refine wp_region_till [14] (fun wz : World => wz.cell? ⟨b, 3, none⟩ = some (.slice A2 n2 c2) ∧ wz.cell? ⟨b, 2, none⟩ = some (.slice A1 n1 c1)) (by kernel_rfl) ?_
  rw [HWD.out]
  have hHeld : (fun wz : World => wz.cell? ⟨b, 3, none⟩ = some (.slice A2 n2 c2) ∧ wz.cell? ⟨b, 2, none⟩ = some (.slice A1 n1 c1)) wd := ⟨y3, y2⟩
  refine wpTill_free (i := 0) (v := ?_) rfl (by kernel_rfl) (by kernel_rfl) (by kernel_rfl) (by kernel_rfl) (fun _ _ _ h => h) (Or.inl ⟨by rfl, ?_⟩) hHeld ?_
  rotate_left
  · intro wq hSw
    go_simp
    all_goals with_reducible rfl
  try simp only [Act.put, List.getElem_toArray, List.getElem_cons_succ, List.getElem_cons_zero, List.setIfInBounds_toArray, List.set_cons_zero, List.set_cons_succ]
  refine wpTill_free (i := 1) (v := ?_) rfl (by kernel_rfl) (by kernel_rfl) (by kernel_rfl) (by kernel_rfl) (fun _ _ _ h => h) (Or.inl ⟨by rfl, ?_⟩) hHeld ?_
  rotate_left
  · intro wq hSw
    go_simp
    all_goals with_reducible rfl
  try simp only [Act.put, List.getElem_toArray, List.getElem_cons_succ, List.getElem_cons_zero, List.setIfInBounds_toArray, List.set_cons_zero, List.set_cons_succ]
  refine wpTill_free (i := 2) (v := ?_) rfl (by kernel_rfl) (by kernel_rfl) (by kernel_rfl) (by kernel_rfl) (fun _ _ _ h => h) (Or.inl ⟨by rfl, ?_⟩) hHeld ?_
  rotate_left
  · intro wq hSw
    go_simp
    all_goals with_reducible rfl
  try simp only [Act.put, List.getElem_toArray, List.getElem_cons_succ, List.getElem_cons_zero, List.setIfInBounds_toArray, List.set_cons_zero, List.set_cons_succ]
  refine wpTill_free (i := 3) (v := ?_) rfl (by kernel_rfl) (by kernel_rfl) (by kernel_rfl) (by kernel_rfl) (fun _ _ _ h => h) (Or.inl ⟨by rfl, ?_⟩) hHeld ?_
  rotate_left
  · intro wq hSw
    go_simp
    all_goals with_reducible rfl
  try simp only [Act.put, List.getElem_toArray, List.getElem_cons_succ, List.getElem_cons_zero, List.setIfInBounds_toArray, List.set_cons_zero, List.set_cons_succ]
  refine wpTill_take (i := 4) (v := ?_) rfl (by kernel_rfl) (by kernel_rfl) (by kernel_rfl) (by kernel_rfl) (fun _ _ _ h => h) (Or.inl ⟨by rfl, ?_⟩) hHeld ?_
  rotate_left
  · intro wq hSw
    have q0_ := hSw.1
    go_simp
    all_goals with_reducible rfl
  try simp only [Act.put, List.getElem_toArray, List.getElem_cons_succ, List.getElem_cons_zero, List.setIfInBounds_toArray, List.set_cons_zero, List.set_cons_succ]
  refine wpTill_free (i := 5) (v := ?_) rfl (by kernel_rfl) (by kernel_rfl) (by kernel_rfl) (by kernel_rfl) (fun _ _ _ h => h) (Or.inl ⟨by rfl, ?_⟩) hHeld ?_
  rotate_left
  · intro wq hSw
    go_simp
    all_goals with_reducible rfl
  try simp only [Act.put, List.getElem_toArray, List.getElem_cons_succ, List.getElem_cons_zero, List.setIfInBounds_toArray, List.set_cons_zero, List.set_cons_succ]
  refine wpTill_free (i := 6) (v := ?_) rfl (by kernel_rfl) (by kernel_rfl) (by kernel_rfl) (by kernel_rfl) (fun _ _ _ h => h) (Or.inl ⟨by rfl, ?_⟩) hHeld ?_
  rotate_left
  · intro wq hSw
    go_simp
    all_goals with_reducible rfl
  try simp only [Act.put, List.getElem_toArray, List.getElem_cons_succ, List.getElem_cons_zero, List.setIfInBounds_toArray, List.set_cons_zero, List.set_cons_succ]
  refine wpTill_free (i := 7) (v := ?_) rfl (by kernel_rfl) (by kernel_rfl) (by kernel_rfl) (by kernel_rfl) (fun _ _ _ h => h) (Or.inl ⟨by rfl, ?_⟩) hHeld ?_
  rotate_left
  · intro wq hSw
    go_simp
    all_goals with_reducible rfl
  try simp only [Act.put, List.getElem_toArray, List.getElem_cons_succ, List.getElem_cons_zero, List.setIfInBounds_toArray, List.set_cons_zero, List.set_cons_succ]
  refine wpTill_take (i := 8) (v := ?_) rfl (by kernel_rfl) (by kernel_rfl) (by kernel_rfl) (by kernel_rfl) (fun _ _ _ h => h) (Or.inl ⟨by rfl, ?_⟩) hHeld ?_
  rotate_left
  · intro wq hSw
    have q0_ := hSw.2
    go_simp
    all_goals with_reducible rfl
  try simp only [Act.put, List.getElem_toArray, List.getElem_cons_succ, List.getElem_cons_zero, List.setIfInBounds_toArray, List.set_cons_zero, List.set_cons_succ]
  refine wpTill_free (i := 9) (v := ?_) rfl (by kernel_rfl) (by kernel_rfl) (by kernel_rfl) (by kernel_rfl) (fun _ _ _ h => h) (Or.inl ⟨by rfl, ?_⟩) hHeld ?_
  rotate_left
  · intro wq hSw
    go_simp
    all_goals with_reducible rfl
  try simp only [Act.put, List.getElem_toArray, List.getElem_cons_succ, List.getElem_cons_zero, List.setIfInBounds_toArray, List.set_cons_zero, List.set_cons_succ]
  refine wpTill_solo (i := 10) (by kernel_rfl) rfl (fun K hK => ?_)
  go_simp
  have hHeld2 : (fun wz : World => wz.cell? ⟨b, 3, none⟩ = some (.slice A2 n2 c2) ∧ wz.cell? ⟨b, 2, none⟩ = some (.slice A1 n1 c1)) wl := ⟨HL.out.x3, HL.out.x2⟩
  refine hK.out _ _ hHeld2 ?_
  clear hK K hHeld
  have hHeld := hHeld2
  clear hHeld2
  try simp only [Act.put, List.getElem_toArray, List.getElem_cons_succ, List.getElem_cons_zero, List.setIfInBounds_toArray, List.set_cons_zero, List.set_cons_succ]
  refine wpTill_solo (i := 11) (by kernel_rfl) rfl (fun K hK => ?_)
  refine wpOp_append_int rfl _ _ 23 rfl Try.underlying23 infoInt rfl HL.out.s2 rfl zl HN.out (by omega) ?_
  intro A4 n4 w8 h4 g4 h5
  have t4 : Turned (fun i => (Value.slice A2 n2 c2).ownBlock = some i) wl w8 := Turned.of_grown (F := fun i => (Value.slice A2 n2 c2).ownBlock = some i) g4 fun i e => e
  have hO : OwnI w8 0 A4 (n2 + 1) n4 (cs ++ [xs.length]) := by
    unfold OwnI
    rw [List.map_append, EN.out]
    exact h4
  obtain ⟨p1, p2⟩ := HL.out.put3 t4 hO (h5.imp id fun e => ⟨_, e, Nat.le_refl _⟩)
  obtain ⟨z4, fr⟩ := HL.out.stands t4 fun e => (HL.out.f2 b e).2 rfl
  have hgn : M ++ [openN (P - 4) cs xs] = gensN (P - 4) (cs ++ [xs.length]) xs := by
    rw [HG.out.gens]; exact (gens_cut HG.out.room HO.out).1.symm
  rw [hgn] at p1
  have PW : Hid (Wrote F w b g s xs (cs ++ [xs.length]) (gensN (P - 4) (cs ++ [xs.length]) xs) false (w8.setCell ⟨b, 3, none⟩ (.slice A4 (n2 + 1) n4))) :=
    Wrote.trans (Turned.of_keep K5.out) (fun i e => Or.inl e) (Wrote.trans (G := F7) T7.out G7.out ⟨_, ⟨_, _, _, _, _, _, _, _, _, p1⟩, (Turned.of_keep (F := F7) HK.out).trans p2 fun i e => Or.inl e, fun i hi => hi.new.imp id fun e => Nat.le_trans HK.out.size e⟩)
  have z5 := z4 3 _ HL.out.x3
  have z6 := z4 2 _ HL.out.x2
  have f5 := fr 3
  clear h4 g4 h5 t4 hO p1 p2 z4 fr hgn
  have hHeld2 : (fun wz : World => wz.cell? ⟨b, 3, none⟩ = some (.slice A2 n2 c2) ∧ wz.cell? ⟨b, 2, none⟩ = some (.slice A1 n1 c1)) w8 := ⟨z5, z6⟩
  refine hK.out _ _ hHeld2 ?_
  clear hK K hHeld
  have hHeld := hHeld2
  clear hHeld2
  try simp only [Act.put, List.getElem_toArray, List.getElem_cons_succ, List.getElem_cons_zero, List.setIfInBounds_toArray, List.set_cons_zero, List.set_cons_succ]
  refine wpTill_free (i := 12) (v := ?_) rfl (by kernel_rfl) (by kernel_rfl) (by kernel_rfl) (by kernel_rfl) (fun _ _ _ h => h) (Or.inl ⟨by rfl, ?_⟩) hHeld ?_
  rotate_left
  · intro wq hSw
    go_simp
    all_goals with_reducible rfl
  try simp only [Act.put, List.getElem_toArray, List.getElem_cons_succ, List.getElem_cons_zero, List.setIfInBounds_toArray, List.set_cons_zero, List.set_cons_succ]
  refine wpTill_free (i := 13) (v := ?_) rfl (by kernel_rfl) (by kernel_rfl) (by kernel_rfl) (by kernel_rfl) (fun _ _ _ h => h) (Or.inl ⟨by rfl, ?_⟩) hHeld ?_
  rotate_left
  · intro wq hSw
    go_simp
    all_goals with_reducible rfl
  try simp only [Act.put, List.getElem_toArray, List.getElem_cons_succ, List.getElem_cons_zero, List.setIfInBounds_toArray, List.set_cons_zero, List.set_cons_succ]
  refine wpTill_turn (t := 14) (by kernel_rfl) (by kernel_rfl) (by kernel_rfl) ?_
  clear hHeld
  have hHeld : (fun _ : World => True) w8 := trivial
  refine wpAnyH_ready (rs := [14]) (by kernel_rfl) (by simp) ?_
  refine AllReadyH.cons rfl (fun K hK => ?_) AllReadyH.nil
  go_simp
  refine hK.out _ _ trivial (fun hHeld => ?_)
  clear hK K
  try simp only [Act.put, List.getElem_toArray, List.getElem_cons_succ, List.getElem_cons_zero, List.setIfInBounds_toArray, List.set_cons_zero, List.set_cons_succ]
  refine wpAnyH_done (by kernel_rfl) ?_ _
  clear hHeld
  generalize w8.setCell ⟨b, 3, none⟩ (.slice A4 (n2 + 1) n4) = w9 at *
  go_wp2_with fail
  go_ret
  exact ⟨rfl, PW.out⟩
theorem flush_any {P : Nat} (h : SrcR w F b g s xs cs M cl) (hG : GoodS g s P xs cs M) (hcs : cs.length ≤ 900000) :
    Calls Try.prog 16 #[.pointer (some ⟨b, 0, none⟩)] w fun e w' => e = .returned (.int .i64 (flushE cl)) ∧ Wrote F w b g s xs (flushC P cl xs cs) (gensN (P - 4) (flushC P cl xs cs) xs) cl w' := by
  cases cl with
  | true =>
    rw [flushC, if_neg (by simp), ← hG.gens]
    exact (flush_closed h hG).mono fun e w' he => ⟨he.1, h.wrote he.2⟩
  | false =>
    by_cases ho : openN (P - 4) cs xs = []
    · rw [flushC, if_neg (fun e => e.2 ho), ← hG.gens]
      exact (flush_none h hG ho).mono fun e w' he => ⟨he.1, h.wrote he.2⟩
    · rw [flushC, if_pos ⟨rfl, ho⟩]
      exact flush_some h hG ho hcs
def closeE (cl : Bool) : Bool := true
set_option maxHeartbeats 1000000 in
theorem close_any {P : Nat} (h : SrcR w F b g s xs cs M cl) (hG : GoodS g s P xs cs M) (hcs : cs.length ≤ 900000) :
    Calls Try.prog 18 #[.pointer (some ⟨b, 0, none⟩)] w fun e w' => e = .returned (.int .i64 (flushE cl)) ∧ Wrote F w b g s xs (flushC P cl xs cs) (gensN (P - 4) (flushC P cl xs cs) xs) true w' := by
  have HF := Lib.hid (flush_any h hG hcs)
  clear h hG hcs
  generalize flushC P cl xs cs = C at *
  generalize gensN (P - 4) C xs = N at *
  cases cl with
  | true =>
    rw [show flushE true = 27 from rfl] at HF ⊢
    go_enter Try.func18, Try.ntmps18
    go_wp2_with fail
    refine HF.out.mono ?_
    rintro e w1 ⟨rfl, p1⟩
    have P1 := Lib.hid p1
    clear p1
    go_wp2_with fail
    go_ret
    exact ⟨rfl, P1.out⟩
  | false =>
    rw [show flushE false = 0 from rfl] at HF ⊢
    go_enter Try.func18, Try.ntmps18
    go_wp2_with fail
    refine HF.out.mono ?_
    rintro e w1 ⟨rfl, F1, ⟨A1, n1, c1, A2, n2, c2, A3, n3, c3, h1⟩, t1, f1⟩
    have x5 := h1.x5
    have fr := h1.free 5
    obtain ⟨p1, p2⟩ := h1.put5 true
    have PW : Hid (Wrote F w b g s xs C N true (w1.setCell ⟨b, 5, none⟩ (.bool true))) := Wrote.trans (G := F1) t1 f1 ⟨F1, ⟨_, _, _, _, _, _, _, _, _, p1⟩, p2, fun i hi => Or.inl hi⟩
    clear h1 t1 f1 p1 p2 HF
    go_wp2_with fail
    go_ret
    exact ⟨rfl, PW.out⟩
end
end Go.Proofs.Ytcafofffgmaepaa
/- The landed source: Submit. -/
namespace Go.Proofs.Ytcafofffgmaepaa
open Go.RowKit
set_option linter.unusedVariables false
set_option linter.unusedSimpArgs false
section
variable {w w' : World} {F G : Nat → Prop} {b g s : Nat} {A1 : Option Addr} {n1 c1 : Nat} {A2 : Option Addr} {n2 c2 : Nat} {A3 : Option Addr} {n3 c3 : Nat} {xs cs : List Nat} {M : List (List Nat)} {cl : Bool}
set_option maxRecDepth 100000 in
set_option maxHeartbeats 2000000 in
theorem isfull_any (h : SrcA w F b g s A1 n1 c1 A2 n2 c2 A3 n3 c3 xs cs M cl) {P : Nat} (hG : GoodS g s P xs cs M) (more most k : Nat) (hmore : more ≤ 140737488351232) (hk : ((openN (P - 4) cs xs).length + more + (P - 4) - 1) / (P - 4) = k) (r : Int) (hr : (if 262144 < xs.length + more ∨ most < M.length + k then 7 else 0) = r) :
    Calls Try.prog 54 #[.pointer (some ⟨b, 0, none⟩), .int .i64 (more : Int), .int .u64 (most : Int)] w (AskR w True r) := by
  obtain ⟨o, ho⟩ : ∃ o, (openN (P - 4) cs xs).length = o := ⟨_, rfl⟩
  have hol := hG.openL
  have hfew := hG.few
  have hlen := hG.len
  have en1 := h.n1eq
  have en3 := h.n3eq
  rw [ho] at hk hol
  by_cases ha : 262144 < xs.length + more
  · refine isfull_gen _ more most True true r (by rw [← hr, if_pos (Or.inl ha)]; rfl) w fun _ q0 q1 q2 w2 hq0 hq1 hq2 kw => ?_
    have z0 := hq0.cell
    have z1 := hq1.cell
    have z2 := hq2.cell
    have y2 := (h.keep kw).x2
    have d1 : decide ((262144 : Int) - (n1 : Int) < (more : Int)) = true := decide_eq_true (by omega)
    have d2 : IntKind.i64.wrap ((262144 : Int) - (n1 : Int)) = (262144 : Int) - (n1 : Int) := IntWalk.i64_in _ (by omega)
    have d3 : (262144 : Int) - (n1 : Int) < (more : Int) := by omega
    clear h hq0 hq1 hq2 kw hr hG hk ho hol hfew hlen en3
    go_enter Try.func92, Try.ntmps92
    go_wp2_with fail
    go_quiet (fail)
    go_wp2_with fail
    go_ret
    exact ⟨rfl, _, rfl⟩
  · have hkl : k ≤ 1000000 := by
      rw [← hk]
      have hl := hG.room
      refine Nat.le_trans (Nat.div_le_of_le_mul (n := o + more + 1) ?_) (by omega)
      have := Nat.mul_le_mul_right (o + more) hl
      rw [Nat.mul_add, Nat.mul_one]
      omega
    obtain ⟨bb, hb⟩ : ∃ bb, decide (most < n3 + k) = bb := ⟨_, rfl⟩
    refine isfull_gen _ more most True bb r (by rw [← hr, ← hb, en3]; by_cases hc : most < n3 + k <;> simp [ha, hc]) w fun _ q0 q1 q2 w2 hq0 hq1 hq2 kw => ?_
    have z0 := hq0.cell
    have z1 := hq1.cell
    have z2 := hq2.cell
    have h2 := h.keep kw
    have y2 := h2.x2
    have y4 := h2.x4
    have HO : Hid (∀ w', Keep w2 w' → Calls Try.prog 56 #[.pointer (some ⟨b, 0, none⟩)] w' fun e w'' => e = .returned (.int .i64 (o : Int)) ∧ ∃ m, w'' = w'.drewN m) := fun w' kk => open_any (h2.keep kk) _ o rfl hol (by omega) (by omega)
    have HP : Hid (∀ w', Keep w2 w' → Calls Try.prog 93 #[.pointer (some ⟨b, 0, none⟩), .int .i64 ((o + more : Nat) : Int)] w' fun e w'' => e = .returned (.int .i64 (k : Int)) ∧ ∃ m, w'' = w'.drewN m) := fun w' kk => pieces_any (h2.keep kk) hG.size (o + more) k (by omega) hk
    have d1 : decide ((262144 : Int) - (n1 : Int) < (more : Int)) = false := decide_eq_false (by omega)
    have d2 : IntKind.i64.wrap ((262144 : Int) - (n1 : Int)) = (262144 : Int) - (n1 : Int) := IntWalk.i64_in _ (by omega)
    have d3 : (o : Int) + (more : Int) = ((o + more : Nat) : Int) := by omega
    have d4 : IntKind.i64.wrap ((o : Int) + (more : Int)) = ((o + more : Nat) : Int) := by rw [d3]; exact IntWalk.i64_in _ (by omega)
    have d5 : IntKind.i64.wrap ((n3 : Int) + (k : Int)) = ((n3 + k : Nat) : Int) := by rw [show (n3 : Int) + (k : Int) = ((n3 + k : Nat) : Int) by omega]; exact IntWalk.i64_in _ (by omega)
    have d6 : IntKind.u64.wrap ((n3 + k : Nat) : Int) = ((n3 + k : Nat) : Int) := IntWalk.u64_in _ (by omega)
    clear d3
    obtain ⟨om, hom⟩ : ∃ om, o + more = om := ⟨_, rfl⟩
    obtain ⟨nk, hnk⟩ : ∃ nk, n3 + k = nk := ⟨_, rfl⟩
    rw [hom] at HP d4
    rw [hnk] at d5 d6 hb
    by_cases hc : most < nk
    · obtain rfl : true = bb := by rw [← hb]; exact (decide_eq_true hc).symm
      have e1 : (most : Int) < (nk : Int) := by omega
      have e2 : decide ((most : Int) < (nk : Int)) = true := decide_eq_true e1
      clear h h2 hq0 hq1 hq2 kw hr hG hk ho hol hfew hlen en3 en1 hb hom hnk hkl hmore ha hc
      go_enter Try.func92, Try.ntmps92
      go_wp2_with fail
      go_quiet (first | (go_at_call 56; exact quiet_drewN (HO.out _ ((Keep.refl _).drewN _))) | (go_at_call 93; exact quiet_drewN (HP.out _ ((Keep.refl _).drewN _))))
      go_wp2_with fail
      go_ret
      exact ⟨rfl, _, rfl⟩
    · obtain rfl : false = bb := by rw [← hb]; exact (decide_eq_false hc).symm
      have e1 : ¬ (most : Int) < (nk : Int) := by omega
      have e2 : decide ((most : Int) < (nk : Int)) = false := decide_eq_false e1
      have E3 : Hid (decide (most < nk) = false) := decide_eq_false hc
      clear h h2 hq0 hq1 hq2 kw hr hG hk ho hol hfew hlen en3 en1 hb hom hnk hkl hmore ha hc
      go_enter Try.func92, Try.ntmps92
      go_wp2_with fail
      go_quiet (first | (go_at_call 56; exact quiet_drewN (HO.out _ ((Keep.refl _).drewN _))) | (go_at_call 93; exact quiet_drewN (HP.out _ ((Keep.refl _).drewN _))))
      go_wp2_with fail
      go_ret
      exact ⟨by show Ending.returned (.bool (decide (most < nk))) = _; rw [E3.out], _, rfl⟩
end
def subE (P : Nat) (cl : Bool) (xs cs ys : List Nat) (most : Nat) : Int := if cl then 27 else if 262144 < xs.length + ys.length ∨ most < wouldN (P - 4) cs (xs ++ ys) then 7 else 0
def subX (P : Nat) (cl : Bool) (xs cs ys : List Nat) (most : Nat) : List Nat := if subE P cl xs cs ys most = 0 then xs ++ ys else xs
/-- How many ends stand at b. -/
def endsAt (w : World) (b : Nat) : Nat := match w.cell? ⟨b, 4, none⟩ with
  | some (.slice _ n _) => n
  | _ => 0
theorem GoodS.more {g s P : Nat} {xs cs : List Nat} {M : List (List Nat)} (h : GoodS g s P xs cs M) (ys : List Nat) (hl : xs.length + ys.length ≤ 262144) : GoodS g s P (xs ++ ys) cs (gensN (P - 4) cs (xs ++ ys)) :=
  ⟨h.size, fun c hc => by have := h.le c hc; rw [List.length_append]; omega, h.up, rfl, by rw [List.length_append]; exact hl⟩
section
variable {w w' : World} {F G : Nat → Prop} {b g s : Nat} {xs cs ys : List Nat} {M : List (List Nat)} {cl : Bool}
set_option maxRecDepth 100000 in
set_option maxHeartbeats 2000000 in
theorem submit_bad {P : Nat} (h : SrcR w F b g s xs cs M cl) (hG : GoodS g s P xs cs M) (n5 c5 : Nat) (A5 : Option Addr) (most : Nat) (hy : ys.length = n5) (h5 : n5 ≤ 140737488351232) (he : subE P cl xs cs ys most ≠ 0) :
    Calls Try.prog 14 #[.pointer (some ⟨b, 0, none⟩), .slice A5 n5 c5, .int .u64 (most : Int)] w fun e w' => e = .returned (.int .i64 (subE P cl xs cs ys most)) ∧ Keep w w' := by
  obtain ⟨k, hk⟩ : ∃ k, ((openN (P - 4) cs xs).length + n5 + (P - 4) - 1) / (P - 4) = k := ⟨_, rfl⟩
  have hwd := would_div (ys := ys) hG.room hG.le
  rw [hy, hk, ← hG.gens] at hwd
  obtain ⟨rc, hrc⟩ : ∃ rc : Int, (if cl then 27 else 0) = rc := ⟨_, rfl⟩
  obtain ⟨rf, hrf⟩ : ∃ rf : Int, (if 262144 < xs.length + n5 ∨ most < M.length + k then 7 else 0) = rf := ⟨_, rfl⟩
  obtain ⟨re, hre⟩ : ∃ re : Int, subE P cl xs cs ys most = re := ⟨_, rfl⟩
  have h3 : or3 0 rc rf = re := by
    rw [← hre, ← hrc, ← hrf, subE, hwd, hy, or3, if_pos rfl]
    cases cl <;> simp
  rw [hre] at he ⊢
  have HRC := Lib.hid hrc
  have HRF := Lib.hid hrf
  have HR3 := Lib.hid h3
  have HKK := Lib.hid hk
  have HN5 := Lib.hid h5
  clear hwd hrc hrf hre h3 hk hy
  obtain ⟨A1, n1, c1, A2, n2, c2, A3, n3, c3, h⟩ := h
  have hg := hG.size.g0
  have H0 := Lib.hid h
  have HG := Lib.hid hG
  clear h5
  clear h hG
  go_enter Try.func14, Try.ntmps14
  go_wp2_with fail
  refine (isnone_any H0.out hg).mono ?_
  rintro e w1 ⟨v1, rfl, k1, a1⟩
  obtain ⟨i1, j1, rfl⟩ := a1.form
  have K1 := Lib.hid k1
  have V1 := Lib.hid a1
  clear k1 a1
  go_wp2_with fail
  refine (isclosed_any (H0.out.keep K1.out) rc HRC.out).mono ?_
  rintro e w2 ⟨v2, rfl, k2, a2⟩
  obtain ⟨i2, j2, rfl⟩ := a2.form
  have K2 := Lib.hid k2
  have V2 := Lib.hid a2
  clear k2 a2
  go_wp2_with fail
  refine (isfull_any (H0.out.keep (K1.out.trans K2.out)) HG.out n5 most k HN5.out HKK.out rf HRF.out).mono ?_
  rintro e w3 ⟨v3, rfl, k3, a3⟩
  obtain ⟨i3, j3, rfl⟩ := a3.form
  have K3 := Lib.hid k3
  have V3 := Lib.hid a3
  clear k3 a3
  go_wp2_with fail
  refine (first3 _ _ _ 0 rc rf w3 (V1.out.keep (K2.out.trans K3.out)) ((V2.out.keep K3.out).weak fun _ => trivial) (V3.out.weak fun _ => trivial) _ _).mono ?_
  rw [HR3.out]
  rintro e w4 ⟨rfl, m, hw4⟩
  have K4 : Hid (Keep w w4) := by show Keep w w4; rw [hw4]; exact (((K1.out.trans K2.out).trans K3.out).alloc _ _).drewN m
  clear hw4 K1 V1 K2 V2 K3 V3
  go_wp2_with fail
  go_ret
  exact ⟨rfl, K4.out⟩
set_option maxRecDepth 100000 in
set_option maxHeartbeats 4000000 in
theorem submit_good {P : Nat} (h : SrcR w F b g s xs cs M false) (hG : GoodS g s P xs cs M) (B n5 c5 : Nat) (A5 : Option Addr) (most : Nat) (hb : Bytes w B A5 n5 ys) (hB : B ≤ w.heap.size) (hl : xs.length + n5 ≤ 262144) (hm : wouldN (P - 4) cs (xs ++ ys) ≤ most) :
    Calls Try.prog 14 #[.pointer (some ⟨b, 0, none⟩), .slice A5 n5 c5, .int .u64 (most : Int)] w fun e w' => e = .returned (.int .i64 0) ∧ Wrote F w b g s (xs ++ ys) cs (gensN (P - 4) cs (xs ++ ys)) false w' := by
  obtain ⟨k, hk⟩ : ∃ k, ((openN (P - 4) cs xs).length + n5 + (P - 4) - 1) / (P - 4) = k := ⟨_, rfl⟩
  have hwd := would_div (ys := ys) hG.room hG.le
  have hy := hb.length
  rw [hy, hk, ← hG.gens] at hwd
  obtain ⟨rc, hrc⟩ : ∃ rc : Int, (if false then 27 else 0) = rc := ⟨_, rfl⟩
  obtain ⟨rf, hrf⟩ : ∃ rf : Int, (if 262144 < xs.length + n5 ∨ most < M.length + k then 7 else 0) = rf := ⟨_, rfl⟩
  have h3 : or3 0 rc rf = 0 := by
    have hn : ¬ (262144 < xs.length + n5 ∨ most < M.length + k) := by omega
    rw [← hrc, ← hrf]
    simp [or3, hn]
  have HRC := Lib.hid hrc
  have HRF := Lib.hid hrf
  have HR3 := Lib.hid h3
  have HKK := Lib.hid hk
  have HN5 : Hid (n5 ≤ 140737488351232) := by show n5 ≤ 140737488351232; omega
  have HBY := Lib.hid hb
  have HB := Lib.hid hB
  have HL := Lib.hid hl
  obtain ⟨R, hR⟩ : ∃ R, P - 4 = R := ⟨_, rfl⟩
  have HR := Lib.hid hR
  have HR1 : Hid (1 ≤ R) := by show 1 ≤ R; rw [← hR]; exact hG.room
  have HRU : Hid (R ≤ 16711425) := by show R ≤ 16711425; have := hG.size.hi; omega
  clear hwd hrc hrf h3 hk hy hb hB hl hm hR
  obtain ⟨A1, n1, c1, A2, n2, c2, A3, n3, c3, h⟩ := h
  have hg := hG.size.g0
  have H0 := Lib.hid h
  have HG := Lib.hid hG
  clear h hG
  go_enter Try.func14, Try.ntmps14
  go_wp2_with fail
  refine (isnone_any H0.out hg).mono ?_
  rintro e w1 ⟨v1, rfl, k1, a1⟩
  obtain ⟨i1, j1, rfl⟩ := a1.form
  have K1 := Lib.hid k1
  have V1 := Lib.hid a1
  clear k1 a1
  go_wp2_with fail
  refine (isclosed_any (H0.out.keep K1.out) rc HRC.out).mono ?_
  rintro e w2 ⟨v2, rfl, k2, a2⟩
  obtain ⟨i2, j2, rfl⟩ := a2.form
  have K2 := Lib.hid k2
  have V2 := Lib.hid a2
  clear k2 a2
  go_wp2_with fail
  refine (isfull_any (H0.out.keep (K1.out.trans K2.out)) HG.out n5 most k HN5.out HKK.out rf HRF.out).mono ?_
  rintro e w3 ⟨v3, rfl, k3, a3⟩
  obtain ⟨i3, j3, rfl⟩ := a3.form
  have K3 := Lib.hid k3
  have V3 := Lib.hid a3
  clear k3 a3
  go_wp2_with fail
  refine (first3 _ _ _ 0 rc rf w3 (V1.out.keep (K2.out.trans K3.out)) ((V2.out.keep K3.out).weak fun _ => trivial) (V3.out.weak fun _ => trivial) _ _).mono ?_
  rw [HR3.out]
  rintro e w4 ⟨rfl, m, hw4⟩
  have K4 : Hid (Keep w w4) := by show Keep w w4; rw [hw4]; exact (((K1.out.trans K2.out).trans K3.out).alloc _ _).drewN m
  clear hw4 K1 V1 K2 V2 K3 V3
  have y2 := (H0.out.keep K4.out).x2
  have z2 := (H0.out.keep K4.out).free 2
  go_wp2_with (at_builtin; refine wpList_append_bytes rfl _ _ 22 rfl Try.underlying22 info5 rfl (H0.out.keep K4.out).s1 rfl (HBY.out.keep HB.out K4.out) ?cc (by omega) ?_)
  case cc =>
    have := H0.out.n1eq; have := HL.out; omega
  intro A6 c6 w6 h6 g6 r6
  have t6 : Turned (fun i => (Value.slice A1 n1 c1).ownBlock = some i) w4 w6 := Turned.of_grown (F := fun i => (Value.slice A1 n1 c1).ownBlock = some i) g6 fun i e => e
  obtain ⟨p1, p2⟩ := (H0.out.keep K4.out).put2 t6 h6 (r6.imp id fun e => ⟨_, e, Nat.le_refl _⟩)
  obtain ⟨z4, fr⟩ := (H0.out.keep K4.out).stands t6 fun e => (H0.out.f1 b e).2 rfl
  have z5 := z4 2 _ y2
  have f5 := fr 2
  have en1 := H0.out.n1eq
  have PW : Hid (Wrote F w b g s (xs ++ ys) cs M false (w6.setCell ⟨b, 2, none⟩ (.slice A6 (n1 + n5) c6))) :=
    Wrote.trans (Turned.of_keep K4.out) (fun i e => Or.inl e) ⟨_, ⟨_, _, _, _, _, _, _, _, _, p1⟩, p2, fun i hi => hi.new⟩
  obtain ⟨w7, hw7⟩ : ∃ w7, w6.setCell ⟨b, 2, none⟩ (.slice A6 (n1 + n5) c6) = w7 := ⟨_, rfl⟩
  rw [hw7] at PW
  clear h6 g6 r6 t6 p1 p2 z4 fr y2 z2 en1 H0 K4
  go_wp2_with fail
  obtain ⟨F7, s7, t7, f7⟩ := PW.out
  have S7 := Lib.hid s7
  have T7 := Lib.hid t7
  have G7 := Lib.hid f7
  clear s7 t7 f7
  obtain ⟨B1, m1, d1, B2, m2, d2, B3, m3, d3, a7⟩ := S7.out
  refine (room_any a7 HG.out.size).mono ?_
  rw [HR.out]
  rintro e w8 ⟨rfl, m8, hw8⟩
  have K8 : Hid (Keep w7 w8) := by show Keep w7 w8; rw [hw8]; exact (Keep.refl _).drewN m8
  have S8 := Lib.hid (S7.out.keep K8.out)
  have T8 : Hid (Turned F w w8) := T7.out.trans (Turned.of_keep (F := fun _ => False) K8.out) fun i e => e.elim
  clear hw8 a7 S7 T7 K8 hw7 z5 f5 PW
  go_wp2_with fail
  obtain ⟨f, hf⟩ : ∃ f, fromN R cs xs = f := ⟨_, rfl⟩
  have HF := Lib.hid hf
  have HLL : Hid ((xs ++ ys).length = xs.length + n5) := by show _ = _; rw [List.length_append, HBY.out.length]
  have HFL : Hid (f ≤ xs.length) := by show _ ≤ _; rw [← hf]; exact from_le HR1.out
  clear hf
  go_loopw [34] (fun rv wr => ∃ (j : Nat) (Fr : Nat → Prop), f + j * R ≤ (xs ++ ys).length ∧ SrcR wr Fr b g s (xs ++ ys) cs (M ++ fullN R (xs ++ ys) f j) false ∧ Turned F w wr ∧ ∀ i, Fr i → F i ∨ w.heap.size ≤ i) (fun _ wr => 300000 - endsAt wr b)
  case atStart => exact ⟨0, F7, by have := HLL.out; have := HFL.out; omega, by rw [show fullN R (xs ++ ys) f 0 = [] from rfl, List.append_nil]; exact S8.out, T8.out, G7.out⟩
  case round =>
    obtain ⟨j, Fr, hj, sr, tr, fr⟩ := hrel
    have SR := Lib.hid sr
    have TR := Lib.hid tr
    have FR := Lib.hid fr
    have hMg : M = gensN R cs xs := by have := HG.out.gens; rwa [HR.out] at this
    have hfl : (M ++ fullN R (xs ++ ys) f j).flatten.length = f + j * R := by rw [hMg, ← HF.out]; exact sub_last HR1.out ys j (by rw [HF.out]; exact hj)
    have hjl : j ≤ j * R := by
      have := Nat.mul_le_mul_left j HR1.out
      rwa [Nat.mul_one] at this
    have hML : M.length ≤ f := by
      have := flat_each (M := M) (by rw [HG.out.gens]; exact fun r hr => (gens_each HG.out.room r hr).1)
      have h2 := HG.out.flat
      rw [HR.out, HF.out] at h2
      omega
    have hcount : (M ++ fullN R (xs ++ ys) f j).length = M.length + j := by rw [List.length_append, fullN_len]
    have hLL := HLL.out
    have hL := HL.out
    obtain ⟨o, ho⟩ : ∃ o, (xs ++ ys).length = f + j * R + o := ⟨(xs ++ ys).length - (f + j * R), by omega⟩
    have ho2 : o ≤ 262144 := by omega
    have HJ : Hid (M.length + j ≤ 262144) := by show _ ≤ _; omega
    have HOO := Lib.hid ho
    have HFF := Lib.hid hfl
    have HCN := Lib.hid hcount
    have HMG := Lib.hid hMg
    have hms : endsAt wr b = M.length + j := by
      obtain ⟨B1, m1, d1, B2, m2, d2, B3, m3, d3, a⟩ := sr
      have e3 := a.n3eq
      have e4 := a.x4
      unfold endsAt
      rw [e4]; show m3 = _
      omega
    have HMS := Lib.hid hms
    clear sr tr fr hj hMg hfl hjl hML hcount hLL hL ho hms S8 T8
    go_wp2_with fail
    obtain ⟨B1, m1, d1, B2, m2, d2, B3, m3, d3, a⟩ := SR.out
    refine (open_any a (f + j * R) o HFF.out HOO.out (by have := HCN.out; have := HJ.out; omega) (by have := HLL.out; have := HL.out; omega)).mono ?_
    rintro e w9 ⟨rfl, m9, hw9⟩
    have K9 : Hid (Keep wr w9) := by show Keep wr w9; rw [hw9]; exact (Keep.refl _).drewN m9
    have S9 := Lib.hid (SR.out.keep K9.out)
    have T9 : Hid (Turned F w w9) := TR.out.trans (Turned.of_keep (F := fun _ => False) K9.out) fun i e => e.elim
    clear hw9 a SR TR K9
    by_cases hlt : R ≤ o
    · have d1 : (R : Int) ≤ (o : Int) := by omega
      go_wp2_with fail
      refine (end_any S9.out R (f + j * R) HFF.out (by have := HCN.out; have := HJ.out; omega) (by have := HLL.out; have := HL.out; have := HOO.out; omega) (M ++ fullN R (xs ++ ys) f (j + 1)) (by
        have := sub_ends (cs := cs) HR1.out ys j (by rw [HF.out]; have := HOO.out; omega)
        rw [HF.out, ← HMG.out] at this; exact this)).mono ?_
      rintro e w10 ⟨rfl, p10⟩
      have P10 := Lib.hid (Wrote.trans T9.out FR.out p10)
      clear p10
      go_wp2_with fail
      go_roundw
      case rel =>
        obtain ⟨F', q1, q2, q3⟩ := P10.out
        exact ⟨j + 1, F', by rw [Nat.add_mul, Nat.one_mul]; have := HOO.out; omega, q1, q2, q3⟩
      case measure =>
        obtain ⟨F', q1, q2, q3⟩ := P10.out
        obtain ⟨B1, m1, d1, B2, m2, d2, B3, m3, d3, a⟩ := q1
        have e3 := a.n3eq
        have e4 := a.x4
        have e5 : endsAt w10 b = M.length + (j + 1) := by
          unfold endsAt
          rw [e4]; show m3 = _
          rw [← e3, List.length_append, fullN_len]
        have hm1 := HMS.out
        have hj1 := HJ.out
        rw [e5, hm1]; omega
    · have d1 : ¬ (R : Int) ≤ (o : Int) := by omega
      have PE : Hid (Wrote F w b g s (xs ++ ys) cs (gensN R cs (xs ++ ys)) false w9) := by
        have e1 := (sub_gens (cs := cs) (xs := xs) HR1.out (by have := HG.out.le; exact this) ys j (by rw [HF.out]; have := HOO.out; omega) (by rw [HF.out]; have := HOO.out; omega)).1
        rw [HF.out, ← HMG.out] at e1
        refine ⟨Fr, ?_, T9.out, FR.out⟩
        rw [e1]; exact S9.out
      clear S9 T9
      go_wp2_with fail
      go_ret
      exact ⟨rfl, by rw [HR.out]; exact PE.out⟩
theorem submit_any {P : Nat} (h : SrcR w F b g s xs cs M cl) (hG : GoodS g s P xs cs M) (B n5 c5 : Nat) (A5 : Option Addr) (most : Nat) (hb : Bytes w B A5 n5 ys) (hB : B ≤ w.heap.size) (h5 : n5 ≤ 140737488351232) :
    Calls Try.prog 14 #[.pointer (some ⟨b, 0, none⟩), .slice A5 n5 c5, .int .u64 (most : Int)] w fun e w' => e = .returned (.int .i64 (subE P cl xs cs ys most)) ∧ Wrote F w b g s (subX P cl xs cs ys most) cs (gensN (P - 4) cs (subX P cl xs cs ys most)) cl w' := by
  by_cases he : subE P cl xs cs ys most = 0
  · rw [subX, if_pos he, he]
    have hcl : cl = false := by
      cases cl with
      | false => rfl
      | true => exact absurd he (by simp [subE])
    subst hcl
    have h7 : ¬ (262144 < xs.length + ys.length ∨ most < wouldN (P - 4) cs (xs ++ ys)) := fun e => by
      rw [subE, if_neg (by simp), if_pos e] at he; cases he
    exact submit_good h hG B n5 c5 A5 most hb hB (by have := hb.length; omega) (by omega)
  · rw [subX, if_neg he, ← hG.gens]
    exact (submit_bad h hG n5 c5 A5 most hb.length h5 he).mono fun e w' hh => ⟨hh.1, h.wrote hh.2⟩
end
end Go.Proofs.Ytcafofffgmaepaa
